package token_test

import (
	"slices"
	"strings"
	"testing"

	"quadrille/api"
	"quadrille/token"
)

// split holds the tokens of a formula against those that are wanted.
func split(t *testing.T, s string, want ...token.Token) {
	t.Helper()
	got, at, e := token.Split(s)
	if !slices.Equal(got, want) || at != 0 || e != api.OK {
		t.Errorf("Split(%q) = %v, %d, %d; want %v, 0, OK", s, got, at, e, want)
	}
}

// fails holds the place at which no token begins against the one that is wanted.
func fails(t *testing.T, s string, want int) {
	t.Helper()
	got, at, e := token.Split(s)
	if len(got) != 0 || at != want || e != api.ErrParse {
		t.Errorf("Split(%q) = %v, %d, %d; want nothing, %d, ErrParse", s, got, at, e, want)
	}
}

// The kinds as the chapter numbers them.
func TestKinds(t *testing.T) {
	kinds := []int{token.Number, token.Text, token.Name, token.Sign, token.Fault}
	if !slices.Equal(kinds, []int{1, 2, 3, 4, 5}) {
		t.Errorf("the kinds are %v", kinds)
	}
}

// P8.1: the document's example, and formulas of all kinds of tokens.
func TestSplit(t *testing.T) {
	split(t, "A1<=2.5", token.Token{Kind: token.Name, Text: "A1", At: 0}, token.Token{Kind: token.Sign, Text: "<=", At: 2}, token.Token{Kind: token.Number, Text: "2.5", At: 4})
	split(t, `IF(A1=0,"none, yet",-#REF!)`,
		token.Token{Kind: token.Name, Text: "IF", At: 0}, token.Token{Kind: token.Sign, Text: "(", At: 2},
		token.Token{Kind: token.Name, Text: "A1", At: 3}, token.Token{Kind: token.Sign, Text: "=", At: 5}, token.Token{Kind: token.Number, Text: "0", At: 6},
		token.Token{Kind: token.Sign, Text: ",", At: 7}, token.Token{Kind: token.Text, Text: "none, yet", At: 8}, token.Token{Kind: token.Sign, Text: ",", At: 19},
		token.Token{Kind: token.Sign, Text: "-", At: 20}, token.Token{Kind: token.Fault, Text: "#REF!", At: 21}, token.Token{Kind: token.Sign, Text: ")", At: 26})
	split(t, `B2:C10&"x"`,
		token.Token{Kind: token.Name, Text: "B2", At: 0}, token.Token{Kind: token.Sign, Text: ":", At: 2}, token.Token{Kind: token.Name, Text: "C10", At: 3},
		token.Token{Kind: token.Sign, Text: "&", At: 6}, token.Token{Kind: token.Text, Text: "x", At: 7})
}

// P8.1: blanks between tokens are ignored, but they separate tokens.
func TestBlanks(t *testing.T) {
	for _, s := range []string{"", " ", "  ", strings.Repeat(" ", 300)} {
		split(t, s)
	}
	split(t, "  1  2 ", token.Token{Kind: token.Number, Text: "1", At: 2}, token.Token{Kind: token.Number, Text: "2", At: 5})
	split(t, "A 1", token.Token{Kind: token.Name, Text: "A", At: 0}, token.Token{Kind: token.Number, Text: "1", At: 2})
	split(t, "< =", token.Token{Kind: token.Sign, Text: "<", At: 0}, token.Token{Kind: token.Sign, Text: "=", At: 2})
	split(t, "< >", token.Token{Kind: token.Sign, Text: "<", At: 0}, token.Token{Kind: token.Sign, Text: ">", At: 2})
	split(t, `" "`, token.Token{Kind: token.Text, Text: " ", At: 0})
	split(t, `"a" "b"`, token.Token{Kind: token.Text, Text: "a", At: 0}, token.Token{Kind: token.Text, Text: "b", At: 4})
	fails(t, "1 .5", 2)
	fails(t, "1. 5", 0)
	fails(t, "# REF!", 0)
	fails(t, "#REF !", 0)
}

// P8.1: numbers have all digits that there are, and a point only with a digit behind it.
func TestNumbers(t *testing.T) {
	for _, s := range []string{"0", "7", "00", "007", "10", "1234567890", "0.0", "1.5", "1.50", "00.00", "123.456789", strings.Repeat("9", 400), strings.Repeat("1", 200) + "." + strings.Repeat("0", 200)} {
		split(t, s, token.Token{Kind: token.Number, Text: s, At: 0})
		split(t, " "+s+" ", token.Token{Kind: token.Number, Text: s, At: 1})
	}
	split(t, "12AB", token.Token{Kind: token.Number, Text: "12", At: 0}, token.Token{Kind: token.Name, Text: "AB", At: 2})
	split(t, "1.5E3", token.Token{Kind: token.Number, Text: "1.5", At: 0}, token.Token{Kind: token.Name, Text: "E3", At: 3})
	split(t, "1,5", token.Token{Kind: token.Number, Text: "1", At: 0}, token.Token{Kind: token.Sign, Text: ",", At: 1}, token.Token{Kind: token.Number, Text: "5", At: 2})
	split(t, "-1", token.Token{Kind: token.Sign, Text: "-", At: 0}, token.Token{Kind: token.Number, Text: "1", At: 1})
	for s, at := range map[string]int{
		"1.": 0, "1.A": 0, "1..": 0, "1..5": 0, "1.,": 0, "1. ": 0, "1.\"5\"": 0, "1./2": 0, "1.:": 0, "12.": 0, " 12.": 1, "2+12.": 2, "1 2.": 2,
		".": 0, ".5": 0, "..": 0, "1.5.": 3, "1.5.5": 3, "1.5..": 3, "A1.5": 2, "A.": 1, "-.5": 1, "(.5": 1, "1x": 1, "1.5x": 3, "1.x": 0, "1_0": 1, "1e5": 1,
	} {
		fails(t, s, at)
	}
}

// P8.1: names have all letters and digits that there are.
func TestNames(t *testing.T) {
	for _, s := range []string{"A", "Z", "A1", "ZZ9999", "SUM", "ABCDEFGHIJKLMNOPQRSTUVWXYZ0123456789", "A0", "A1B2", "R1C1", "TRUE", "REF", strings.Repeat("A", 300), "X" + strings.Repeat("0", 300)} {
		split(t, s, token.Token{Kind: token.Name, Text: s, At: 0})
		split(t, "("+s+")", token.Token{Kind: token.Sign, Text: "(", At: 0}, token.Token{Kind: token.Name, Text: s, At: 1}, token.Token{Kind: token.Sign, Text: ")", At: 1 + len(s)})
	}
	split(t, `A"b"C`, token.Token{Kind: token.Name, Text: "A", At: 0}, token.Token{Kind: token.Text, Text: "b", At: 1}, token.Token{Kind: token.Name, Text: "C", At: 4})
	for s, at := range map[string]int{"a": 0, "z": 0, "a1": 0, "sum(A1)": 0, "Sum(A1)": 1, "A1a": 2, "A_1": 1, "_A": 0, "A$1": 1, "$A$1": 0, "É": 0, "AÉ": 1, "Ａ": 0, "A１": 1, "REF!": 3, "A1!": 2} {
		fails(t, s, at)
	}
}

// P8.1: texts denote what stands between the quotes, two quotes for one.
func TestTexts(t *testing.T) {
	for s, said := range map[string]string{
		`""`: "", `"a"`: "a", `" "`: " ", `"""" `: `"`, `""""`: `"`, `""""""`: `""`, `""""""""`: `"""`, `"a"""`: `a"`, `"""a"`: `"a`, `"a""b"`: `a"b`, `"a""""b"`: `a""b`, `"a""b""c"`: `a"b"c`, `""" """`: `" "`,
		`"1+A1"`: "1+A1", `"#REF!"`: "#REF!", `"sum $ . é"`: "sum $ . é", "\"\n\t\x00\"": "\n\t\x00", "\"\xff\x80\"": "\xff\x80", `"\"`: `\`, `"\""x"`: `\"x`, `"it's"`: "it's",
	} {
		split(t, s, token.Token{Kind: token.Text, Text: said, At: 0})
		split(t, "A&"+s, token.Token{Kind: token.Name, Text: "A", At: 0}, token.Token{Kind: token.Sign, Text: "&", At: 1}, token.Token{Kind: token.Text, Text: said, At: 2})
	}
	split(t, `"a"1`, token.Token{Kind: token.Text, Text: "a", At: 0}, token.Token{Kind: token.Number, Text: "1", At: 3})
	split(t, `"a""b" "c"`, token.Token{Kind: token.Text, Text: `a"b`, At: 0}, token.Token{Kind: token.Text, Text: "c", At: 7})
	for s, at := range map[string]int{
		`"`: 0, `"a`: 0, `"a `: 0, `"""`: 0, `"a""`: 0, `"""a`: 0, `"a""b`: 0, `"""""`: 0, ` "`: 1, `A1&"`: 3, `"a" "`: 4, `"a"&"b`: 4, `""a"`: 2, `"\"x"`: 3, `'a'`: 0, "“a”": 0, "`a`": 0,
	} {
		fails(t, s, at)
	}
}

// P8.1: the signs, the longer one if two match.
func TestSigns(t *testing.T) {
	for _, s := range []string{"<>", "<=", ">=", "<", ">", "=", "+", "-", "*", "/", "&", "(", ")", ",", ":"} {
		split(t, s, token.Token{Kind: token.Sign, Text: s, At: 0})
		split(t, "A"+s+"1", token.Token{Kind: token.Name, Text: "A", At: 0}, token.Token{Kind: token.Sign, Text: s, At: 1}, token.Token{Kind: token.Number, Text: "1", At: 1 + len(s)})
	}
	for s, cut := range map[string]string{
		"<<": "< <", ">>": "> >", "==": "= =", "=<": "= <", "=>": "= >", "><": "> <", "<=>": "<= >", "<>=": "<> =", ">==": ">= =", "<<>": "< <>", "<<=": "< <=", ">>=": "> >=", "<>>": "<> >", "<>>=": "<> >=", "==>=": "= = >=", "<=<>": "<= <>",
		"--": "- -", "++": "+ +", "**": "* *", "//": "/ /", "&&": "& &", "::": ": :", ",,": ", ,", "()": "( )", "((": "( (", "-(": "- (", ":=": ": =", "/*": "/ *", "+-*/&(),:": "+ - * / & ( ) , :",
	} {
		var want []token.Token
		at := 0
		for _, sign := range strings.Fields(cut) {
			want = append(want, token.Token{Kind: token.Sign, Text: sign, At: at})
			at += len(sign)
		}
		split(t, s, want...)
	}
	for s, at := range map[string]int{"!": 0, "<!": 1, "!=": 0, "^": 0, "2^3": 1, "%": 0, "5%": 1, ";": 0, "[": 0, "{": 0, "|": 0, "~": 0, "@": 0, "?": 0, "$": 0, "\\": 0, "≤": 0, "−1": 0, "×": 0} {
		fails(t, s, at)
	}
}

// P8.1: the fault is #REF! and nothing else.
func TestFault(t *testing.T) {
	fault := token.Token{Kind: token.Fault, Text: "#REF!", At: 0}
	split(t, "#REF!", fault)
	split(t, "#REF!#REF!", fault, token.Token{Kind: token.Fault, Text: "#REF!", At: 5})
	split(t, "#REF!A1", fault, token.Token{Kind: token.Name, Text: "A1", At: 5})
	split(t, "A1#REF!", token.Token{Kind: token.Name, Text: "A1", At: 0}, token.Token{Kind: token.Fault, Text: "#REF!", At: 2})
	split(t, "1#REF!", token.Token{Kind: token.Number, Text: "1", At: 0}, token.Token{Kind: token.Fault, Text: "#REF!", At: 1})
	for s, at := range map[string]int{
		"#": 0, "#R": 0, "#RE": 0, "#REF": 0, "#REF?": 0, "#REF1": 0, "#ref!": 0, "#Ref!": 0, "##REF!": 0, "#REF!!": 5, "#REF!#REF": 5, "#REFS!": 0,
		"#DIV/0!": 0, "#VALUE!": 0, "#NUM!": 0, "#CYCLE!": 0, "#N/A": 0, "1+#REF": 2,
	} {
		fails(t, s, at)
	}
}

// P8.1: of several places at which no token begins, the first one is told; what stands before it is not.
func TestFirstFault(t *testing.T) {
	for s, at := range map[string]int{
		"x y": 0, "1 x y": 2, "$$": 0, "1+$+$": 2, "1. $": 0, "$ 1.": 0, "A1 1.5. \"": 6, "\"a\" . \"b": 4, "  #  #": 2, strings.Repeat("1 ", 500) + "?" + strings.Repeat(" 1", 500): 1000,
		"\t": 0, "1\t2": 1, "1\n": 1, "1\r\n": 1, "\v1": 0, "1\u00a02": 1, "\x00": 0, "1\x00": 1, "\xff": 0, "A\x80": 1, "1\xa0": 1,
	} {
		fails(t, s, at)
	}
}

// P8.2: the quotes around a text, and each quote in it doubled.
func TestQuote(t *testing.T) {
	for s, want := range map[string]string{
		"": `""`, "a": `"a"`, " ": `" "`, `"`: `""""`, `""`: `""""""`, `a"b`: `"a""b"`, `"a"`: `"""a"""`, `a"`: `"a"""`, `"a`: `"""a"`,
		"1+A1": `"1+A1"`, `\`: `"\"`, `'`: `"'"`, "é\n": "\"é\n\"", "\x00\xff": "\"\x00\xff\"",
	} {
		if got := token.Quote(s); got != want {
			t.Errorf("Quote(%q) = %q; want %q", s, got, want)
		}
	}
}
