package token_test

import (
	"regexp"
	"slices"
	"strings"
	"testing"

	"quadrille/api"
	"quadrille/token"
)

// patterns are what the chapter says of the tokens, as expressions; the longest match of a kind is the token.
var patterns = []struct {
	kind    int
	pattern *regexp.Regexp
}{
	{token.Number, regexp.MustCompile(`^[0-9]+(\.[0-9]+)?`)},
	{token.Text, regexp.MustCompile(`(?s)^"([^"]|"")*"`)},
	{token.Name, regexp.MustCompile(`^[A-Z][A-Z0-9]*`)},
	{token.Sign, regexp.MustCompile(`^(<>|<=|>=|[-<>=+*/&(),:])`)},
	{token.Fault, regexp.MustCompile(`^#REF!`)},
}

// next returns the token with which the rest of a formula begins, with its quotes; empty: none.
func next(rest string) (int, string) {
	for _, p := range patterns {
		s := p.pattern.FindString(rest)
		if s == "" {
			continue
		}
		// What a point follows is no number yet, and what a quote follows is no text.
		behind := rest[len(s):]
		if p.kind == token.Number && !strings.Contains(s, ".") && strings.HasPrefix(behind, ".") || p.kind == token.Text && strings.HasPrefix(behind, `"`) {
			return 0, ""
		}
		return p.kind, s
	}
	return 0, ""
}

// reference splits a formula with the patterns.
func reference(s string) ([]token.Token, int, api.Errno) {
	var l []token.Token
	rest := strings.TrimLeft(s, " ")
	for rest != "" {
		at := len(s) - len(rest)
		kind, found := next(rest)
		if found == "" {
			return nil, at, api.ErrParse
		}
		said := found
		if kind == token.Text {
			said = strings.ReplaceAll(found[1:len(found)-1], `""`, `"`)
		}
		l = append(l, token.Token{Kind: kind, Text: said, At: at})
		rest = strings.TrimLeft(rest[len(found):], " ")
	}
	return l, 0, api.OK
}

// agrees holds Split against the reference.
func agrees(t *testing.T, s string) {
	got, at, e := token.Split(s)
	want, wantAt, wantE := reference(s)
	if !slices.Equal(got, want) || at != wantAt || e != wantE {
		t.Errorf("Split(%q) = %v, %d, %d; want %v, %d, %d", s, got, at, e, want, wantAt, wantE)
	}
}

// each calls a function with every string of at most so many of some pieces.
func each(pieces []string, most int, call func(s string)) {
	var from func(s string, more int)
	from = func(s string, more int) {
		call(s)
		if more == 0 {
			return
		}
		for _, piece := range pieces {
			from(s+piece, more-1)
		}
	}
	from("", most)
}

// P8.1: every string of at most two bytes, and any byte in any place of a formula.
func TestAnyByte(t *testing.T) {
	var bytes []string
	for b := range 256 {
		bytes = append(bytes, string([]byte{byte(b)}))
	}
	each(bytes, 2, func(s string) { agrees(t, s) })
	for _, s := range []string{"A1<=2.5", `"a""b"`, "#REF!", "12.34", "IF(A1<>0,1)", "B2:C3", `A1 & " " & B1`} {
		for place := range len(s) + 1 {
			agrees(t, s[:place])
			agrees(t, s[place:])
			for _, b := range bytes {
				agrees(t, s[:place]+b+s[place:])
				if place < len(s) {
					agrees(t, s[:place]+b+s[place+1:])
				}
			}
		}
	}
}

// P8.1: every string of a few pieces that meet each other in all ways.
func TestShortStrings(t *testing.T) {
	for _, l := range []struct {
		pieces []string
		most   int
	}{
		{[]string{"1", ".", "A", `"`, " ", "<"}, 6},
		{[]string{`"`, "a", " "}, 8},
		{[]string{"0", "9", ".", "A"}, 7},
		{[]string{"<", ">", "=", "-", " "}, 6},
		{[]string{"#REF!", "#", "R", "REF", "!", " ", "1"}, 4},
		{[]string{"A1", "SUM", "1.5", `"x"`, "#REF!", "<>", ">=", "(", ")", ",", ":", "&", "*", "/", "+", " ", "$"}, 3},
	} {
		each(l.pieces, l.most, func(s string) { agrees(t, s) })
	}
}

// P8.1: the tokens lie in their order, without the blanks, and make up the formula.
func TestTokensMakeUpTheFormula(t *testing.T) {
	each([]string{"A1", "15", `"x""y"`, `""`, "#REF!", "<>", "<", ">", "=", "(", ":", " "}, 4, func(s string) {
		l, _, e := token.Split(s)
		if e != api.OK {
			t.Errorf("Split(%q): error %d", s, e)
			return
		}
		end := 0
		for _, k := range l {
			written := k.Text
			if k.Kind == token.Text {
				written = token.Quote(k.Text)
			}
			if k.At < end || strings.Trim(s[end:k.At], " ") != "" || !strings.HasPrefix(s[k.At:], written) {
				t.Errorf("Split(%q) = %v", s, l)
			}
			end = k.At + len(written)
		}
		if strings.Trim(s[end:], " ") != "" {
			t.Errorf("Split(%q) = %v; something is left", s, l)
		}
	})
}

// single holds the result of Quote against a single token that denotes the string.
func single(t *testing.T, s string) {
	quoted := token.Quote(s)
	want := []token.Token{{Kind: token.Text, Text: s, At: 0}}
	if l, at, e := token.Split(quoted); !slices.Equal(l, want) || at != 0 || e != api.OK {
		t.Errorf("Split(Quote(%q)) = %v, %d, %d", s, l, at, e)
	}
	if len(quoted) != len(s)+strings.Count(s, `"`)+2 {
		t.Errorf("Quote(%q) = %q", s, quoted)
	}
}

// P8.3: texts with quotes in all places, with any bytes, and long ones.
func TestQuoteIsASingleToken(t *testing.T) {
	each([]string{`"`, "a", " ", "\\"}, 7, func(s string) { single(t, s) })
	for first := range 256 {
		for second := range 256 {
			single(t, string([]byte{byte(first), byte(second)}))
		}
	}
	for _, s := range []string{`"`, `a"`, `"a`, "ab", `""b`} {
		for _, n := range []int{100, 1 << 16, 1 << 20} {
			single(t, strings.Repeat(s, n))
		}
	}
}

// P8.1: formulas far longer than any that is typed.
func TestLongFormulas(t *testing.T) {
	const n = 1 << 18
	for _, piece := range []string{"1 ", "A+", `"a"&`, "#REF!", "<", "(", " ", "12.5,"} {
		l, at, e := token.Split(strings.Repeat(piece, n))
		each, _, _ := token.Split(piece)
		if len(l) != n*len(each) || at != 0 || e != api.OK {
			t.Errorf("Split of %q %d times: %d tokens, %d, %d", piece, n, len(l), at, e)
		}
	}
	for _, s := range []string{strings.Repeat("9", n), strings.Repeat("A", n), token.Quote(strings.Repeat(`"`, n))} {
		if l, _, e := token.Split(s); len(l) != 1 || e != api.OK {
			t.Errorf("Split of %d bytes from %q on: %d tokens, %d", len(s), s[:3], len(l), e)
		}
		if l, at, e := token.Split("1 " + s + "."); len(l) != 0 || e != api.ErrParse || at != 2 && at != 2+len(s) {
			t.Errorf("Split of %d bytes from %q on, and a point: %d tokens, %d, %d", len(s), s[:3], len(l), at, e)
		}
	}
	if l, at, e := token.Split(strings.Repeat("1+", n) + "?"); len(l) != 0 || at != 2*n || e != api.ErrParse {
		t.Errorf("Split of a long formula that ends in ?: %d tokens, %d, %d", len(l), at, e)
	}
}

// P8.1: what was answered is not of one memory with what is answered later.
func TestAnswersAreNew(t *testing.T) {
	const s = "A1+1"
	first, _, _ := token.Split(s)
	want := slices.Clone(first)
	second, _, _ := token.Split(s)
	second[0].Text = "B2"
	_ = append(second[:1], token.Token{})
	if third, _, _ := token.Split(s); !slices.Equal(first, want) || !slices.Equal(third, want) {
		t.Errorf("Split(%q) = %v, and then %v", s, first, third)
	}
}
