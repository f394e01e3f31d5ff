package tree_test

import (
	"math"
	"regexp"
	"slices"
	"strings"
	"testing"

	"quadrille/api"
	"quadrille/dec"
	"quadrille/tree"
)

// node is a tree over references that are their own names.
type node = tree.Node[string]

func number(d dec.Dec) node { return node{Kind: tree.Number, Num: d} }

func text(s string) node { return node{Kind: tree.Text, Text: s} }

func ref(s string) node { return node{Kind: tree.Ref, From: s} }

func span(from, to string) node { return node{Kind: tree.Range, From: from, To: to} }

func minus(n node) node { return node{Kind: tree.Minus, Args: []node{n}} }

func binary(sign string, a, b node) node {
	return node{Kind: tree.Binary, Text: sign, Args: []node{a, b}}
}

func call(name string, args ...node) node {
	return node{Kind: tree.Call, Text: name, Args: args}
}

func fault() node { return node{Kind: tree.Fault} }

// operators are those of each level, that of level 1 first.
func operators() [][]string {
	return [][]string{{"=", "<>", "<", "<=", ">", ">="}, {"&"}, {"+", "-"}, {"*", "/"}}
}

// The kinds as the chapter numbers them, and the levels.
func TestConstants(t *testing.T) {
	kinds := []int{tree.Number, tree.Text, tree.Ref, tree.Range, tree.Minus, tree.Binary, tree.Call, tree.Fault}
	if !slices.Equal(kinds, []int{1, 2, 3, 4, 5, 6, 7, 8}) || tree.Levels != 4 {
		t.Errorf("the kinds are %v, the levels %d", kinds, tree.Levels)
	}
}

// P9.1
func TestSigns(t *testing.T) {
	for i, want := range operators() {
		if got := tree.Signs(i + 1); !slices.Equal(got, want) {
			t.Errorf("Signs(%d) = %q; want %q", i+1, got, want)
		}
	}
	for _, level := range []int{0, -1, 5, 6, -4, 100, math.MinInt, math.MaxInt} {
		if got := tree.Signs(level); len(got) != 0 {
			t.Errorf("Signs(%d) = %q; want none", level, got)
		}
	}
}

// P9.1: what a caller does with the operators is not seen by the next one.
func TestSignsAreNew(t *testing.T) {
	for i, want := range operators() {
		l := tree.Signs(i + 1)
		clear(l[:cap(l)])
		if got := tree.Signs(i + 1); !slices.Equal(got, want) || tree.Level(want[0]) != i+1 {
			t.Errorf("Signs(%d) = %q after a change", i+1, got)
		}
	}
}

// P9.1: every string of at most two bytes, and some longer ones.
func TestLevel(t *testing.T) {
	want := map[string]int{"=": 1, "<>": 1, "<": 1, "<=": 1, ">": 1, ">=": 1, "&": 2, "+": 3, "-": 3, "*": 4, "/": 4}
	all := []string{"", "<>=", "<=>", "<=<", ">=>", "+-*", "+++", "&&&", " + ", "<\x00>", "−", "×", "plus", strings.Repeat("<", 1000)}
	for a := range 256 {
		all = append(all, string([]byte{byte(a)}))
		for b := range 256 {
			all = append(all, string([]byte{byte(a), byte(b)}))
		}
	}
	for _, s := range all {
		if got := tree.Level(s); got != want[s] {
			t.Errorf("Level(%q) = %d; want %d", s, got, want[s])
		}
	}
}

// P9.1: every string of at most two bytes, any byte in any place of some names, and names at the limit.
func TestName(t *testing.T) {
	pattern := regexp.MustCompile(`\A[A-Z][A-Z0-9]{0,31}\z`)
	holds := func(s string) {
		if got := tree.Name(s); got != pattern.MatchString(s) {
			t.Errorf("Name(%q) = %v", s, got)
		}
	}
	holds("")
	for a := range 256 {
		holds(string([]byte{byte(a)}))
		for b := range 256 {
			holds(string([]byte{byte(a), byte(b)}))
		}
		for _, s := range []string{"SUM", "A1", "IF", "R2D2", strings.Repeat("Z", 31), strings.Repeat("A9", 16)} {
			for i := range len(s) + 1 {
				holds(s[:i] + string([]byte{byte(a)}) + s[i:])
				holds(s[:i] + string([]byte{byte(a)}) + s[min(i+1, len(s)):])
			}
		}
	}
	for n := range 70 {
		for _, s := range []string{"A", "Z", "0", "9", "Q1", " A", "A ", "é"} {
			holds(strings.Repeat(s, n))
			holds("X" + strings.Repeat(s, n))
		}
	}
	for _, s := range []string{"SUM(", "A:B", "A,B", "A B", "A1:B2", `"A"`, "#REF!", "1.5", "SUM()", "Sum", "sUM", "A_B", "A.B", "ＳＵＭ", strings.Repeat("A", 1<<20)} {
		holds(s)
	}
	for _, s := range []string{"A", "SUM", "A1", "LOG10", "ABCDEFGHIJKLMNOPQRSTUVWXYZ012345", "X7890123456789012345678901234567"} {
		if !tree.Name(s) || tree.Name(s+strings.Repeat("A", 33-len(s))) {
			t.Errorf("Name(%q), or one of 33 bytes", s)
		}
	}
}

// P9.2: how many Args each kind has.
func TestRightArgs(t *testing.T) {
	least := map[int]int{tree.Minus: 1, tree.Binary: 2}
	most := map[int]int{tree.Minus: 1, tree.Binary: 2, tree.Call: api.MaxArgs}
	said := map[int]string{tree.Binary: "+", tree.Call: "SUM"}
	for kind := tree.Number; kind <= tree.Fault; kind++ {
		for args := range api.MaxArgs + 4 {
			n := node{Kind: kind, Text: said[kind], Args: slices.Repeat([]node{ref("A1")}, args)}
			if got, want := tree.Right(n), least[kind] <= args && args <= most[kind]; got != want {
				t.Errorf("kind %d with %d Args: Right = %v", kind, args, got)
			}
		}
	}
}

// P9.2: the kinds, numbers, operators and names that are valid, and those that are not.
func TestRightFields(t *testing.T) {
	for _, n := range []node{number(0), number(1), number(dec.Greatest), text(""), text(`a"b`), text(strings.Repeat("x", 1000)), ref(""), ref("A1"), span("", ""), span("A1", "B2"), fault(), call("F"), call(strings.Repeat("F", 32))} {
		if !tree.Right(n) {
			t.Errorf("%+v is not valid", n)
		}
	}
	for _, n := range []node{number(-1), number(-1000000), number(dec.Least), call(""), call("f"), call("1F"), call("F "), call("F("), call("F.G"), call(strings.Repeat("F", 33)), call("+")} {
		if tree.Right(n) {
			t.Errorf("%+v is valid", n)
		}
	}
	for _, signs := range operators() {
		for _, sign := range signs {
			if !tree.Right(binary(sign, number(1), ref("A1"))) {
				t.Errorf("%q is no operator", sign)
			}
		}
	}
	for _, sign := range []string{"", "!", "==", "><", "=>", "=<", "&&", " +", "+ ", ",", ":", "(", ")", "^", "%", "SUM", "\x00"} {
		if tree.Right(binary(sign, number(1), ref("A1"))) {
			t.Errorf("%q is an operator", sign)
		}
	}
}

// P9.2: other kinds are not valid, with any number of Args.
func TestRightKinds(t *testing.T) {
	for _, kind := range []int{0, -1, -8, 9, 10, 256 + tree.Text, 1<<32 + tree.Text, math.MinInt, math.MaxInt} {
		for args := range 3 {
			if tree.Right(node{Kind: kind, Text: "+", Args: slices.Repeat([]node{number(1)}, args)}) {
				t.Errorf("kind %d with %d Args is valid", kind, args)
			}
		}
	}
	if tree.Right(node{}) {
		t.Error("the zero Node is valid")
	}
}

// P9.2: the fields that a kind does not use are not examined.
func TestRightOtherFields(t *testing.T) {
	full := node{Num: -7, Text: "no sign, no name", From: "x", To: "y"}
	for _, kind := range []int{tree.Text, tree.Ref, tree.Range, tree.Minus, tree.Fault} {
		n := full
		n.Kind = kind
		if kind == tree.Minus {
			n.Args = []node{ref("A1")}
		}
		if !tree.Right(n) {
			t.Errorf("%+v is not valid", n)
		}
	}
	for _, n := range []node{
		{Kind: tree.Number, Num: 7, Text: full.Text, From: "x", To: "y"},
		{Kind: tree.Binary, Num: -7, Text: "<>", From: "x", To: "y", Args: []node{fault(), fault()}},
		{Kind: tree.Call, Num: -7, Text: "F", From: "x", To: "y"},
		{Kind: tree.Number, Args: []node{}},
	} {
		if !tree.Right(n) {
			t.Errorf("%+v is not valid", n)
		}
	}
}

// P9.2: a tree is not valid if anything in it is not.
func TestRightBelow(t *testing.T) {
	good := []node{number(1), text("a"), ref("A1"), span("A1", "B2"), fault(), minus(number(1)), binary("&", text("a"), fault()), call("F", number(1))}
	bad := []node{{}, number(-1), {Kind: tree.Minus}, binary("!", number(1), number(1)), call("f"), {Kind: tree.Fault, Args: []node{number(1)}}, {Kind: 9}, minus(number(-1)), call("F", number(1), node{})}
	holds := func(n node, want bool) {
		if got := tree.Right(n); got != want {
			t.Errorf("%+v: Right = %v", n, got)
		}
	}
	for _, g := range good {
		for _, any := range slices.Concat(good, bad) {
			want := tree.Right(any)
			holds(minus(any), want)
			holds(binary("+", g, any), want)
			holds(binary("*", any, g), want)
			holds(minus(minus(binary("=", g, call("F", g, any, g)))), want)
			for place := range api.MaxArgs {
				args := slices.Repeat([]node{g}, api.MaxArgs)
				args[place] = any
				holds(call("F", args...), want)
			}
		}
	}
	for _, b := range bad {
		if tree.Right(b) {
			t.Errorf("%+v is valid", b)
		}
	}
}

// growths are ways to make a tree that is 1 deeper than another one.
func growths() []func(n node) node {
	return []func(n node) node{
		minus,
		func(n node) node { return binary("-", n, number(1)) },
		func(n node) node { return binary("/", number(1), n) },
		func(n node) node { return call("F", n) },
		func(n node) node { return call("F", ref("A1"), text("a"), n, minus(fault())) },
		func(n node) node { return call("F", append(slices.Repeat([]node{fault()}, 15), n)...) },
	}
}

// P9.2: a tree of MaxDepth nodes below one another is valid, one more is too many.
func TestDepthLimit(t *testing.T) {
	for i, grow := range growths() {
		n := minus(ref("A1"))
		for depth := 2; depth <= 2*api.MaxDepth; depth++ {
			if got := tree.Depth(n); got != depth {
				t.Errorf("way %d: Depth = %d; want %d", i, got, depth)
			}
			if got := tree.Right(n); got != (depth <= 64) {
				t.Errorf("way %d: Right = %v at depth %d", i, got, depth)
			}
			n = grow(n)
		}
	}
}

// P9.2: the Depth of single nodes, of the deepest Arg in any place, and of trees that are not valid.
func TestDepth(t *testing.T) {
	for _, n := range []node{{}, number(1), text("a"), ref("A1"), span("A1", "B2"), fault(), call("F"), {Kind: tree.Minus}, {Kind: 99, Args: []node{}}} {
		if got := tree.Depth(n); got != 1 {
			t.Errorf("%+v: Depth = %d; want 1", n, got)
		}
	}
	for place := range api.MaxArgs {
		args := slices.Repeat([]node{minus(number(1))}, api.MaxArgs)
		args[place] = minus(minus(binary("+", number(1), fault())))
		if got := tree.Depth(call("F", args...)); got != 5 {
			t.Errorf("the deepest Arg at %d: Depth = %d; want 5", place, got)
		}
	}
	for kind := -1; kind < 12; kind++ {
		n := node{Kind: kind, Args: []node{{}, {Kind: kind, Args: []node{{Kind: kind}}}, {}}}
		if got := tree.Depth(n); got != 3 {
			t.Errorf("kind %d: Depth = %d; want 3", kind, got)
		}
	}
}
