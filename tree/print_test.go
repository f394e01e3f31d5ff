package tree_test

import (
	"slices"
	"strings"
	"testing"

	"quadrille/api"
	"quadrille/dec"
	"quadrille/tree"
)

// self is the name of a reference that is its own name.
func self(s string) string { return s }

// prints holds what is printed of a tree against what is wanted.
func prints(t *testing.T, want string, n node) {
	t.Helper()
	if got := tree.Print(n, self); got != want {
		t.Errorf("%+v: Print = %q; want %q", n, got, want)
	}
}

// P9.4: the document's example, and each kind of node.
func TestPrint(t *testing.T) {
	one, two, three := number(1000000), number(2000000), number(3000000)
	prints(t, "1-(2-3)", binary("-", one, binary("-", two, three)))
	prints(t, "1-2-3", binary("-", binary("-", one, two), three))
	prints(t, "1", one)
	prints(t, "0", number(0))
	prints(t, "0.000001", number(1))
	prints(t, "1.5", number(1500000))
	prints(t, dec.Greatest.Text(), number(dec.Greatest))
	prints(t, `"a"`, text("a"))
	prints(t, `""`, text(""))
	prints(t, `"a""b"`, text(`a"b`))
	prints(t, `"1+A1 "`, text("1+A1 "))
	prints(t, "A1", ref("A1"))
	prints(t, "A1:B2", span("A1", "B2"))
	prints(t, "B2:A1", span("B2", "A1"))
	prints(t, "-1", minus(one))
	prints(t, "F()", call("F"))
	prints(t, "SUM(1)", call("SUM", one))
	prints(t, "SUM(1,A1:B2,\"a\",#REF!)", call("SUM", one, span("A1", "B2"), text("a"), fault()))
	prints(t, "#REF!", fault())
	for _, signs := range operators() {
		for _, sign := range signs {
			prints(t, "A1"+sign+"2", binary(sign, ref("A1"), two))
		}
	}
}

// P9.4: of all pairs of operators, the inner one as the first Arg and as the second.
func TestPrintPairs(t *testing.T) {
	a, b, c := ref("A1"), ref("B1"), ref("C1")
	for i, outer := range operators() {
		for _, x := range outer {
			for j, inner := range operators() {
				for _, y := range inner {
					first, second := "A1"+y+"B1"+x+"C1", "A1"+x+"B1"+y+"C1"
					if j < i {
						first = "(A1" + y + "B1)" + x + "C1"
					}
					if j <= i {
						second = "A1" + x + "(B1" + y + "C1)"
					}
					prints(t, first, binary(x, binary(y, a, b), c))
					prints(t, second, binary(x, a, binary(y, b, c)))
				}
			}
		}
	}
}

// P9.4: a Minus needs parentheses nowhere, but every Binary below one does.
func TestPrintMinus(t *testing.T) {
	a, b := ref("A1"), ref("B1")
	prints(t, "--A1", minus(minus(a)))
	prints(t, "---A1", minus(minus(minus(a))))
	prints(t, "-F()", minus(call("F")))
	prints(t, "-A1:B1", minus(span("A1", "B1")))
	prints(t, `-"a"`, minus(text("a")))
	prints(t, "-#REF!", minus(fault()))
	for _, signs := range operators() {
		for _, sign := range signs {
			prints(t, "-(A1"+sign+"B1)", minus(binary(sign, a, b)))
			prints(t, "--(A1"+sign+"B1)", minus(minus(binary(sign, a, b))))
			prints(t, "-A1"+sign+"B1", binary(sign, minus(a), b))
			prints(t, "A1"+sign+"-B1", binary(sign, a, minus(b)))
			prints(t, "-(A1"+sign+"B1)"+sign+"B1", binary(sign, minus(binary(sign, a, b)), b))
		}
	}
}

// P9.4: the Args of a Call need no parentheses, and neither does a Call.
func TestPrintCall(t *testing.T) {
	a, b := ref("A1"), ref("B1")
	for _, signs := range operators() {
		for _, sign := range signs {
			sum := binary(sign, a, b)
			prints(t, "F(A1"+sign+"B1)", call("F", sum))
			prints(t, "F(A1"+sign+"B1,-A1,A1"+sign+"B1)", call("F", sum, minus(a), sum))
			prints(t, "F(A1"+sign+"B1)"+sign+"G(A1"+sign+"B1)", binary(sign, call("F", sum), call("G", sum)))
			prints(t, "-F(A1"+sign+"B1)", minus(call("F", sum)))
		}
	}
	prints(t, "F(G(),H(A1,B1))", call("F", call("G"), call("H", a, b)))
	args := make([]node, api.MaxArgs)
	for i := range args {
		args[i] = number(dec.Dec(i) * api.Scale)
	}
	prints(t, "F(0,1,2,3,4,5,6,7,8,9,10,11,12,13,14,15)", call("F", args...))
}

// P9.4: trees of some depth, with what is required at each place.
func TestPrintDeep(t *testing.T) {
	a := ref("A1")
	prints(t, "(A1=A1&A1)*-(A1+A1)", binary("*", binary("=", a, binary("&", a, a)), minus(binary("+", a, a))))
	for want, n := range map[string]node{
		"A1+A1*A1":                binary("+", a, binary("*", a, a)),
		"A1&A1+A1*A1":             binary("&", a, binary("+", a, binary("*", a, a))),
		"A1*A1+A1&A1=A1":          binary("=", binary("&", binary("+", binary("*", a, a), a), a), a),
		"A1*(A1+(A1&(A1=A1)))":    binary("*", a, binary("+", a, binary("&", a, binary("=", a, a)))),
		"(((A1=A1)&A1)+A1)*A1":    binary("*", binary("+", binary("&", binary("=", a, a), a), a), a),
		"A1-(A1-(A1-A1))":         binary("-", a, binary("-", a, binary("-", a, a))),
		"A1-A1-A1-A1":             binary("-", binary("-", binary("-", a, a), a), a),
		"A1-A1-(A1-A1)":           binary("-", binary("-", a, a), binary("-", a, a)),
		"A1*A1-A1/A1":             binary("-", binary("*", a, a), binary("/", a, a)),
		"(A1<A1)-(A1>=A1)":        binary("-", binary("<", a, a), binary(">=", a, a)),
		"A1<A1<>(A1<A1)":          binary("<>", binary("<", a, a), binary("<", a, a)),
		"F(-(A1&A1),F(A1=A1))&A1": binary("&", call("F", minus(binary("&", a, a)), call("F", binary("=", a, a))), a),
		`-"-"--1`:                 binary("-", minus(text("-")), minus(number(1000000))),
	} {
		prints(t, want, n)
	}
	right, wrong := a, a
	for range api.MaxDepth - 1 {
		right, wrong = binary("+", right, a), binary("+", a, wrong)
	}
	prints(t, "A1"+strings.Repeat("+A1", 63), right)
	prints(t, strings.Repeat("A1+(", 62)+"A1+A1"+strings.Repeat(")", 62), wrong)
}

// P9.4: name is called with each reference from left to right, and its result is printed as it is.
func TestPrintNames(t *testing.T) {
	type pair struct{ row, col int }
	type over = tree.Node[pair]
	n := over{Kind: tree.Binary, Text: "+", Args: []over{
		{Kind: tree.Minus, Args: []over{{Kind: tree.Ref, From: pair{1, 2}}}},
		{Kind: tree.Call, Text: "F", Args: []over{{Kind: tree.Range, From: pair{3, 4}, To: pair{5, 6}}, {Kind: tree.Fault, From: pair{7, 8}}}},
	}}
	var asked []pair
	got := tree.Print(n, func(p pair) string {
		asked = append(asked, p)
		return strings.Repeat("+", p.row) + strings.Repeat(" ", p.col)
	})
	if want := "-+  +F(+++    :+++++      ,#REF!)"; got != want {
		t.Errorf("Print = %q; want %q", got, want)
	}
	if len(asked) != 3 || asked[0] != (pair{1, 2}) || asked[1] != (pair{3, 4}) || asked[2] != (pair{5, 6}) {
		t.Errorf("names of %v", asked)
	}
}

// P9.4: Print and the others neither panic nor go on for ever with trees that are not valid, and without a function.
func TestNoPanic(t *testing.T) {
	for kind := -1; kind < 12; kind++ {
		for args := range 4 {
			n := node{Kind: kind, Num: -1, Text: "!", From: "x", To: "y"}
			n = node{Kind: kind, Num: -1, Text: "!", From: "x", To: "y", Args: slices.Repeat([]node{n, minus(n)}, args)}
			tree.Print(n, self)
			tree.Print(n, nil)
			tree.Right(n)
			for leaf := range tree.Leaves(n) {
				tree.Same(n, leaf)
			}
			tree.Map[string, int](n, nil)
		}
	}
	if got := tree.Print(binary("+", ref("A1"), span("A1", "B2")), nil); got != "+:" {
		t.Errorf("without names: Print = %q", got)
	}
	if got := tree.Map[string, int](ref("A1"), nil); got.Kind != tree.Fault {
		t.Errorf("without a function: Map = %+v", got)
	}
}
