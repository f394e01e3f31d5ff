package parse_test

import (
	"math"
	"strings"
	"testing"

	"quadrille/a1"
	"quadrille/api"
	"quadrille/dec"
	"quadrille/parse"
	"quadrille/tree"
)

func number(d dec.Dec) parse.Node { return parse.Node{Kind: tree.Number, Num: d} }

func text(s string) parse.Node { return parse.Node{Kind: tree.Text, Text: s} }

func ref(col, row int) parse.Node {
	return parse.Node{Kind: tree.Ref, From: a1.Cell{Col: col, Row: row}}
}

func span(from, to parse.Node) parse.Node {
	return parse.Node{Kind: tree.Range, From: from.From, To: to.From}
}

func minus(n parse.Node) parse.Node {
	return parse.Node{Kind: tree.Minus, Args: []parse.Node{n}}
}

func binary(sign string, a, b parse.Node) parse.Node {
	return parse.Node{Kind: tree.Binary, Text: sign, Args: []parse.Node{a, b}}
}

func call(name string, args ...parse.Node) parse.Node {
	return parse.Node{Kind: tree.Call, Text: name, Args: args}
}

func fault() parse.Node { return parse.Node{Kind: tree.Fault} }

// operators are those of each level, that of level 1 first.
func operators() [][]string {
	return [][]string{{"=", "<>", "<", "<=", ">", ">="}, {"&"}, {"+", "-"}, {"*", "/"}}
}

// several returns a list of the same node.
func several(count int, n parse.Node) []parse.Node {
	var l []parse.Node
	for range count {
		l = append(l, n)
	}
	return l
}

// holds demands that a formula has this tree.
func holds(t *testing.T, s string, want parse.Node) {
	t.Helper()
	if got, e := parse.Formula(s); e != api.OK || !tree.Same(got, want) {
		t.Errorf("Formula(%q) = %+v, %d; want %+v", s, got, e, want)
	}
}

// fails demands that a string is rejected with this error and the zero Node.
func fails(t *testing.T, s string, want api.Errno) {
	t.Helper()
	if got, e := parse.Formula(s); e != want || !tree.Same(got, parse.Node{}) {
		t.Errorf("Formula(%q) = %+v, %d; want the zero Node, %d", s, got, e, want)
	}
}

// P10.1: the operands, alone.
func TestOperands(t *testing.T) {
	for s, want := range map[string]parse.Node{
		"0":                            number(0),
		"1":                            number(1000000),
		"1.50":                         number(1500000),
		"007":                          number(7000000),
		"0.000001":                     number(1),
		"12.345678":                    number(12345678),
		dec.Greatest.Text():            number(dec.Greatest),
		`""`:                           text(""),
		`"a"`:                          text("a"),
		`"a""b"`:                       text(`a"b`),
		`"1+A1"`:                       text("1+A1"),
		`"("`:                          text("("),
		"\"\x00\xff\n\"":               text("\x00\xff\n"),
		"#REF!":                        fault(),
		"A1":                           ref(1, 1),
		"B12":                          ref(2, 12),
		"Z9999":                        ref(26, 9999),
		"ZZ9999":                       ref(702, 9999),
		"A1:B2":                        span(ref(1, 1), ref(2, 2)),
		"B2:A1":                        span(ref(2, 2), ref(1, 1)),
		"B1:A2":                        span(ref(2, 1), ref(1, 2)),
		"C3:C3":                        span(ref(3, 3), ref(3, 3)),
		"A1:ZZ9999":                    span(ref(1, 1), ref(702, 9999)),
		"F()":                          call("F"),
		"F(1)":                         call("F", number(1000000)),
		"SUM(A1:B2,1.5)":               call("SUM", span(ref(1, 1), ref(2, 2)), number(1500000)),
		"A1()":                         call("A1"),
		"A1(A1)":                       call("A1", ref(1, 1)),
		"A0(A1:A1)":                    call("A0", span(ref(1, 1), ref(1, 1))),
		"F(G(),H(1))":                  call("F", call("G"), call("H", number(1000000))),
		"F(1<2,-1)":                    call("F", binary("<", number(1000000), number(2000000)), minus(number(1000000))),
		strings.Repeat("F", 32) + "()": call(strings.Repeat("F", 32)),
		"-1":                           minus(number(1000000)),
		"--1":                          minus(minus(number(1000000))),
		`-"a"`:                         minus(text("a")),
		"-#REF!":                       minus(fault()),
		"-A1:B2":                       minus(span(ref(1, 1), ref(2, 2))),
		"-F()":                         minus(call("F")),
		"-(1)":                         minus(number(1000000)),
		"(1)":                          number(1000000),
		"((A1))":                       ref(1, 1),
		"(A1:A2)":                      span(ref(1, 1), ref(1, 2)),
		"(-(1))":                       minus(number(1000000)),
		`("a")`:                        text("a"),
		"(#REF!)":                      fault(),
		"(F((1)))":                     call("F", number(1000000)),
	} {
		holds(t, s, want)
	}
}

// P10.1: operators of one level are combined from left to right, those of the next one before them.
func TestOperators(t *testing.T) {
	a, b, c := ref(1, 1), ref(2, 1), ref(3, 1)
	for i, signs := range operators() {
		for _, sign := range signs {
			holds(t, "A1"+sign+"B1", binary(sign, a, b))
			holds(t, "-A1"+sign+"-B1", binary(sign, minus(a), minus(b)))
			holds(t, "-(A1"+sign+"B1)", minus(binary(sign, a, b)))
			for j, others := range operators() {
				for _, other := range others {
					first := binary(other, binary(sign, a, b), c)
					last := binary(sign, a, binary(other, b, c))
					want := first
					if j > i {
						want = last
					}
					holds(t, "A1"+sign+"B1"+other+"C1", want)
					holds(t, "(A1"+sign+"B1)"+other+"C1", first)
					holds(t, "A1"+sign+"(B1"+other+"C1)", last)
				}
			}
		}
	}
}

// P10.1: blanks between tokens say nothing.
func TestBlanks(t *testing.T) {
	holds(t, "  1  +  A1  *  2  ", binary("+", number(1000000), binary("*", ref(1, 1), number(2000000))))
	holds(t, " SUM ( A1 : B2 , - 1.50 ) ", call("SUM", span(ref(1, 1), ref(2, 2)), minus(number(1500000))))
	holds(t, " F ( ) ", call("F"))
	holds(t, " ( ( A1 ) ) ", ref(1, 1))
	holds(t, ` " " & " a "`, binary("&", text(" "), text(" a ")))
	for _, s := range []string{"A 1", "1 .5", "1. 5", "# REF!", "#REF !", "1 < = 2", "1 2", "A1 B1"} {
		if n, e := parse.Formula(s); e == api.OK {
			t.Errorf("Formula(%q) = %+v", s, n)
		}
	}
}

// P10.1: what is not a formula though all of its tokens are known.
func TestErrParse(t *testing.T) {
	for _, s := range []string{
		"", " ", strings.Repeat(" ", 256),
		"+", "-", "*", "&", "=", "<>", ":", ",", "(", ")", "()", "(())", "+1", "*1", "=1", "&1", ",1", ":A1", ")1",
		"1+", "1-", "1+*2", "1<>", "1<>=2", "1==2", "1&&2", "-", "--", "1--", "1-+1", "1+-", "-*1",
		"1 2", `1"a"`, `"a""b" "c"`, "1A1", "A1 1", "A1 A2", "#REF!#REF!", "#REF! 1", "F()F()", "F()1", "1(2)", "(1)(2)", "(1)2", `"F"(1)`, "#REF!(1)", "A1:A2(1)", "A1:B2 C3",
		"(1", "((1)", "1)", "(1))", "(1,2)", "1,2", "(1+)", "(", "(-", "F(", "F(1", "F(1,", "F(1,)", "F(,)", "F(,1)", "F(1,,2)", "F(1 2)", "F(1))", "F((1,2))", "F(()", "F(())", "F(1;2)",
		"A1:", "A1:1", "A1:#REF!", `A1:"A2"`, "A1:(A2)", "A1::A2", "A1:-A2", "A1:,", "A1:)", "(A1):A2", "A1:A2:A3", "1:A1", "1:2", "#REF!:A1", `"A1":A2`, "F():A1", "-A1:", "F(A1:)", "A1:+A2",
		"$", "a1", "A1+b1", "1.", ".5", "1.+1", `"`, `"a`, `"""`, "#REF", "#DIV/0!", "A$1", "A1;B1", "1^2", "5%", "{1}", "A1!B1", "\x00", "\t1", "1\n", "é", "F(1.)", "1e",
		`1"+"2`, `(1")"`, `"("1)`, `"-"1`, `A1"("1)`, `F("(")")"`, `F(1","2)`, `A1":"A2`, `F(")"`, `A1:":"`, `1"="1`, `A1"&"A1`, `1"*"1`,
	} {
		fails(t, s, api.ErrParse)
	}
}

// P10.1: a name that is neither of a cell nor before a parenthesis.
func TestErrA1(t *testing.T) {
	for _, s := range []string{
		"A", "A0", "A01", "ABC", "ABC1", "AAA1", "ZZZ1", "A10000", "ZZ10000", "A99999999999999999999", "A1A", "A1B1", "TRUE", "SUM", strings.Repeat("F", 33), strings.Repeat("A", 256),
		"(A)", "-A", "--A", "1+A", "A+1", "A*A1", "A1=A", "A A1", "A 1", "A)", "SUM)", "A,", "A:", "A:A1", "A:A", "A:1", "A#REF!", `A"a"`, `F"("1)`, `A":"A1`,
		"F(A)", "F(1,A", "F(A,", "(A", "-A 1", "1+A+", "F(F)", "F(F,F())", "A1+A0:A1",
		"A1:A", "A1:A0", "A1:AAA1", "A1:A10000", "A1:F(", "A1:F(1)", "A1:SUM(A1,B1)", "A1:A 1", "A1:A:", "A1:A)", "-A1:A", "F(A1:A,", "(A1:A0", "A1:A0:A1", "A1:" + strings.Repeat("F", 33) + "(",
	} {
		fails(t, s, api.ErrA1)
	}
}

// P10.1: numbers that are too great, or have too many digits behind the point.
func TestErrNum(t *testing.T) {
	for _, s := range []string{
		"99999999999999", "9999999999999999999999999999999999", "0.0000001", "1.0000000", strings.Repeat("1", 256),
		"-99999999999999", "(99999999999999", "--(99999999999999)", "1+99999999999999", "1<>99999999999999 2", "F(99999999999999", "F(1,99999999999999", "F(99999999999999,A", "A1*99999999999999)", "99999999999999 A", "99999999999999:A1", "99999999999999(",
		"F(0.0000001)", "1/0.0000001", `"a"&0.0000001`,
	} {
		fails(t, s, api.ErrNum)
	}
	// One millionth more than the greatest number.
	over := []byte(dec.Greatest.Text())
	over[len(over)-1]++
	if _, ok := dec.Parse(string(over)); ok {
		t.Fatal(string(over), "is in range")
	}
	fails(t, string(over), api.ErrNum)
}

// P10.1: only the first token that cannot continue counts, and only what it is where it stands.
func TestFirstFault(t *testing.T) {
	for s, want := range map[string]api.Errno{
		// The number stands where an operator may stand, or another one fails before it.
		"1 99999999999999":    api.ErrParse,
		"A1 99999999999999":   api.ErrParse,
		"(1)99999999999999":   api.ErrParse,
		"F()99999999999999":   api.ErrParse,
		"A1:99999999999999":   api.ErrParse,
		"A1:A2 0.0000001":     api.ErrParse,
		")99999999999999":     api.ErrParse,
		"+99999999999999":     api.ErrParse,
		"F(1,,99999999999999": api.ErrParse,
		"(1,99999999999999)":  api.ErrParse,
		"A+99999999999999":    api.ErrA1,
		"A1:A+99999999999999": api.ErrA1,
		"99999999999999+A":    api.ErrNum,
		"99999999999999+)":    api.ErrNum,
		"99999999999999+":     api.ErrNum,
		"(99999999999999":     api.ErrNum,
		// The same for names.
		"1 A":          api.ErrParse,
		"A1 A":         api.ErrParse,
		"A1:A2 A":      api.ErrParse,
		"(1)A":         api.ErrParse,
		"1:A":          api.ErrParse,
		"A1:A2:A":      api.ErrParse,
		"A1::A":        api.ErrParse,
		")A":           api.ErrParse,
		"1,A":          api.ErrParse,
		"F(1)A":        api.ErrParse,
		"A)":           api.ErrA1,
		"A+":           api.ErrA1,
		"A 99":         api.ErrA1,
		"A:99999999.1": api.ErrA1,
		// A piece that is no token comes before all of them.
		"A+$":              api.ErrParse,
		"A1:A$":            api.ErrParse,
		"99999999999999+$": api.ErrParse,
		`99999999999999+"`: api.ErrParse,
		"A 1.":             api.ErrParse,
	} {
		fails(t, s, want)
	}
}

// P10.1: the name of a function has at most 32 bytes, whatever stands behind it.
func TestLongNames(t *testing.T) {
	long := strings.Repeat("F", 33)
	for _, s := range []string{"(", "()", "(1)", "(A)", "(99999999999999)", "(1", " ()"} {
		fails(t, long+s, api.ErrParse)
		fails(t, "1+"+long+s, api.ErrParse)
	}
	fails(t, long+"+"+long+"()", api.ErrA1)
	fails(t, long+" +1", api.ErrA1)
	holds(t, long[1:]+"(1)", call(long[1:], number(1000000)))
	holds(t, "A1234567890123456789012345678901()", call("A1234567890123456789012345678901"))
}

// P10.1: a call has at most 16 arguments, and a comma behind the sixteenth cannot continue it.
func TestMaxArgs(t *testing.T) {
	one := number(1000000)
	for count := 1; count <= 16; count++ {
		holds(t, "F("+strings.Repeat("1,", count-1)+"1)", call("F", several(count, one)...))
		fails(t, "F("+strings.Repeat("1,", count-1)+"1", api.ErrParse)
		fails(t, "F("+strings.Repeat("1,", count-1)+"A)", api.ErrA1)
	}
	full := "F(" + strings.Repeat("1,", 15)
	for _, s := range []string{"1,1)", "1,A)", "1,99999999999999)", "1,", "1,)", "1,1,1)", "G(),A"} {
		fails(t, full+s, api.ErrParse)
	}
	fails(t, full+"99999999999999)", api.ErrNum)
	holds(t, full+"1+1)", call("F", append(several(15, one), binary("+", one, one))...))
	holds(t, full+"F(1,1))", call("F", append(several(15, one), call("F", one, one))...))
	holds(t, full+full+"1))", call("F", append(several(15, one), call("F", several(16, one)...))...))
}

// P10.1: a formula has at most 256 bytes, blanks included.
func TestErrLong(t *testing.T) {
	for _, s := range []string{strings.Repeat(" ", 255) + "1", "1" + strings.Repeat(" ", 255), strings.Repeat("(", 127) + "A1" + strings.Repeat(")", 127), `"` + strings.Repeat("a", 254) + `"`} {
		if _, e := parse.Formula(s); e != api.OK || len(s) != 256 {
			t.Errorf("Formula of %d bytes %q: %d", len(s), s, e)
		}
		fails(t, s+" ", api.ErrLong)
		fails(t, " "+s, api.ErrLong)
	}
	// Before all other errors.
	for _, s := range []string{"$", " ", "1", "A", "-", "(", ")", "\xff", `"`, "1,", "1+"} {
		fails(t, strings.Repeat(s, 257), api.ErrLong)
		fails(t, strings.Repeat(s, 100000), api.ErrLong)
	}
	fails(t, strings.Repeat(" ", 255)+"A1", api.ErrLong)
}

// P10.1: a tree has at most 64 levels; parentheses are none. The error comes after all others.
func TestErrDepth(t *testing.T) {
	for _, c := range []struct {
		first, more, last, behind string
		// The levels of the tree before more is added, and those that it adds each time.
		levels, deeper int
	}{
		{"", "-", "1", "", 1, 1},
		{"1", "+1", "", "", 1, 1},
		{"A1", "=A1", "", "", 1, 1},
		{"1", "*1", "", "", 1, 1},
		{"", "F(", "1", ")", 1, 1},
		{"", "F(", "", ")", 0, 1},
		{"", "F(-", "A1", ")", 1, 2},
		{"", "-(", "1", ")", 1, 1},
		{"", "(", "1", ")", 1, 0},
	} {
		for count := range 70 {
			s := c.first + strings.Repeat(c.more, count) + c.last + strings.Repeat(c.behind, count)
			levels := c.levels + c.deeper*count
			if levels > 64 && len(s) <= 240 {
				fails(t, s, api.ErrDepth)
				fails(t, s+")", api.ErrParse)
				fails(t, s+"+A", api.ErrA1)
				fails(t, s+"+99999999999999", api.ErrNum)
				fails(t, s+"$", api.ErrParse)
			} else if levels > 0 && levels <= 64 {
				n, e := parse.Formula(s)
				if e != api.OK || tree.Depth(n) != levels || !tree.Right(n) {
					t.Errorf("Formula(%q): depth %d, %d; want depth %d", s, tree.Depth(n), e, levels)
				}
			}
		}
	}
	fails(t, strings.Repeat("-", 256), api.ErrParse)
	fails(t, strings.Repeat("-", 255)+"1", api.ErrDepth)
	fails(t, strings.Repeat("(", 256), api.ErrParse)
	fails(t, strings.Repeat("F(", 128), api.ErrParse)
	holds(t, strings.Repeat("(", 127)+"1"+strings.Repeat(")", 127), number(1000000))
}

// P10.1: what a caller does with a tree is not seen by the next one, and no two lists are the same memory.
func TestTreesAreNew(t *testing.T) {
	const s = "F(1,2,3)+G(1,2,3)"
	one, two, three := number(1000000), number(2000000), number(3000000)
	want := binary("+", call("F", one, two, three), call("G", one, two, three))
	n, _ := parse.Formula(s)
	for _, arg := range n.Args {
		_ = append(arg.Args, fault(), fault())
	}
	if !tree.Same(n, want) {
		t.Errorf("two lists share memory: %+v", n)
	}
	for _, arg := range n.Args {
		clear(arg.Args)
	}
	clear(n.Args)
	holds(t, s, want)
}

// P10.2
func TestName(t *testing.T) {
	for want, c := range map[string]a1.Cell{"A1": {Col: 1, Row: 1}, "B12": {Col: 2, Row: 12}, "AA10": {Col: 27, Row: 10}, "ZZ9999": {Col: 702, Row: 9999}} {
		if got := parse.Name(c); got != want {
			t.Errorf("Name(%v) = %q; want %q", c, got, want)
		}
	}
	for _, c := range []a1.Cell{{}, {Col: 1}, {Row: 1}, {Col: 703, Row: 1}, {Col: 1, Row: 10000}, {Col: -1, Row: 1}, {Col: 1, Row: -1}, {Col: math.MinInt, Row: math.MaxInt}} {
		if got := parse.Name(c); got != "" {
			t.Errorf("Name(%v) = %q", c, got)
		}
	}
	for col := range 705 {
		for _, row := range []int{0, 1, 9, 10, 999, 9999, 10000} {
			c := a1.Cell{Col: col, Row: row}
			if parse.Name(c) != c.Text() {
				t.Errorf("Name(%v) = %q", c, parse.Name(c))
			}
		}
	}
}

// P10.2
func TestText(t *testing.T) {
	one, two, three := number(1000000), number(2000000), number(3500000)
	for want, n := range map[string]parse.Node{
		"1":                   one,
		"3.5":                 three,
		`"a""b"`:              text(`a"b`),
		"AA10":                ref(27, 10),
		"B2:A1":               span(ref(2, 2), ref(1, 1)),
		"#REF!":               fault(),
		"-A1":                 minus(ref(1, 1)),
		"F()":                 call("F"),
		"SUM(A1:ZZ9999,2,-1)": call("SUM", span(ref(1, 1), ref(702, 9999)), two, minus(one)),
		"1-(2-3.5)":           binary("-", one, binary("-", two, three)),
		"1-2-3.5":             binary("-", binary("-", one, two), three),
		"1+2*3.5":             binary("+", one, binary("*", two, three)),
		"(1+2)*3.5":           binary("*", binary("+", one, two), three),
		"-(1&2)":              minus(binary("&", one, two)),
		"-1&2":                binary("&", minus(one), two),
		"(1<>2)&A1":           binary("&", binary("<>", one, two), ref(1, 1)),
		"F(1<=2,1=(2=3.5))":   call("F", binary("<=", one, two), binary("=", one, binary("=", two, three))),
	} {
		if got := parse.Text(n); got != want {
			t.Errorf("Text(%+v) = %q; want %q", n, got, want)
		}
		if got := tree.Print(n, a1.Cell.Text); got != want {
			t.Errorf("Print(%+v) = %q; want %q", n, got, want)
		}
		holds(t, want, n)
	}
}

// P10.2: blanks and parentheses that say nothing are not printed.
func TestTextOfFormula(t *testing.T) {
	for s, want := range map[string]string{
		"1 + 2*3": "1+2*3", "(1+2)*3": "(1+2)*3", "((A1))": "A1", "1-(2-3)-4": "1-(2-3)-4", "(1-2)-3": "1-2-3", "- - 1": "--1", "-(-1)": "--1", "(-1)*2": "-1*2", "-(1*2)": "-(1*2)",
		"SUM( A1:B2 , 01.50 )": "SUM(A1:B2,1.5)", "((1<2))=3": "1<2=3", "1<(2=3)": "1<(2=3)", `("a")&("b""")`: `"a"&"b"""`, "F( )": "F()", "(#REF!)+(1)": "#REF!+1", "F((1),(2))": "F(1,2)", "0.500000": "0.5", "(A1:B2)": "A1:B2",
	} {
		if n, e := parse.Formula(s); e != api.OK || parse.Text(n) != want {
			t.Errorf("Formula(%q) = %+v, %d, with the Text %q; want %q", s, n, e, parse.Text(n), want)
		}
	}
}
