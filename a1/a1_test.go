package a1_test

import (
	"math"
	"math/big"
	"strings"
	"testing"

	"quadrille/a1"
	"quadrille/api"
)

// names returns the names of all columns in their order, from A on.
func names() []string {
	var l []string
	for last := 'A'; last <= 'Z'; last++ {
		l = append(l, string(last))
	}
	for first := 'A'; first <= 'Z'; first++ {
		for last := 'A'; last <= 'Z'; last++ {
			l = append(l, string(first)+string(last))
		}
	}
	return l
}

// P7.1: all columns, in their order.
func TestColAndColumn(t *testing.T) {
	l := names()
	if len(l) != 702 || api.MaxCols != 702 {
		t.Fatalf("there are %d columns; want 702", len(l))
	}
	for i, name := range l {
		if got := a1.Col(i + 1); got != name {
			t.Errorf("Col(%d) = %q; want %q", i+1, got, name)
		}
		if got := a1.Column(name); got != i+1 {
			t.Errorf("Column(%q) = %d; want %d", name, got, i+1)
		}
	}
}

// P7.1: the document's examples and what stands around the steps.
func TestColExamples(t *testing.T) {
	for n, name := range map[int]string{
		1: "A", 2: "B", 25: "Y", 26: "Z", 27: "AA", 28: "AB", 52: "AZ", 53: "BA", 78: "BZ", 79: "CA", 676: "YZ", 677: "ZA", 701: "ZY", 702: "ZZ",
	} {
		if got := a1.Col(n); got != name {
			t.Errorf("Col(%d) = %q; want %q", n, got, name)
		}
		if got := a1.Column(name); got != n {
			t.Errorf("Column(%q) = %d; want %d", name, got, n)
		}
	}
}

// P7.1: there are no other columns.
func TestColOfNone(t *testing.T) {
	for _, n := range []int{0, -1, -2, -25, -26, -27, -701, -702, -703, 703, 704, 728, 729, 1000, 1 << 32, 1<<32 + 1, math.MaxInt - 1, math.MaxInt, math.MinInt, math.MinInt + 1} {
		if got := a1.Col(n); got != "" {
			t.Errorf("Col(%d) = %q; want none", n, got)
		}
	}
}

// P7.1: of all strings of at most two bytes only the names are columns.
func TestColumnOfShortStrings(t *testing.T) {
	columns := map[string]int{}
	for i, name := range names() {
		columns[name] = i + 1
	}
	held := func(s string) {
		if got := a1.Column(s); got != columns[s] {
			t.Errorf("Column(%q) = %d; want %d", s, got, columns[s])
		}
	}
	held("")
	for first := range 256 {
		held(string([]byte{byte(first)}))
		for second := range 256 {
			held(string([]byte{byte(first), byte(second)}))
		}
	}
}

// P7.1: names of three letters or more are none.
func TestColumnOfLongStrings(t *testing.T) {
	for _, first := range names() {
		for last := 'A'; last <= 'Z'; last++ {
			if len(first) == 1 {
				continue
			}
			if got := a1.Column(first + string(last)); got != 0 {
				t.Errorf("Column(%q) = %d; want none", first+string(last), got)
			}
		}
	}
	for _, letter := range []string{"A", "B", "H", "P", "Z", "AZ", "ZA"} {
		for n := 3; n < 300; n++ {
			if got := a1.Column(strings.Repeat(letter, n)); got != 0 {
				t.Errorf("Column of %q %d times = %d; want none", letter, n, got)
			}
		}
	}
	for _, s := range []string{
		" A", "A ", "A\n", "A\x00", "AAA", "ABC", "ZZA", "A1", "1A", "aa", "Aa", "aA", "@A", "A@", "[A", "A[", "É", "AÉ", "Ａ", "A\xff", "\xffA", "0", "27",
		strings.Repeat("Z", 1<<16),
	} {
		if got := a1.Column(s); got != 0 {
			t.Errorf("Column(%q) = %d; want none", s, got)
		}
	}
}

// overflow returns the letters that would name column 2^bits + n if there were so many.
func overflow(bits uint, n int64) string {
	rest := new(big.Int).Lsh(big.NewInt(1), bits)
	rest.Add(rest, big.NewInt(n))
	name := ""
	for rest.Sign() > 0 {
		last := new(big.Int)
		rest.DivMod(rest.Sub(rest, big.NewInt(1)), big.NewInt(26), last)
		name = string(rune('A'+last.Int64())) + name
	}
	return name
}

// P7.1, P7.2: names whose numbers an integer of a size would cut to those of columns are none.
func TestOverflow(t *testing.T) {
	if got := overflow(8, 446); got != "ZZ" {
		t.Fatalf("column 702 is %q", got)
	}
	for _, bits := range []uint{16, 31, 32, 63, 64, 65, 128} {
		for n := range int64(703) {
			s := overflow(bits, n)
			if got := a1.Column(s); got != 0 {
				t.Errorf("Column(%q) = %d; want none", s, got)
			}
			if c, e := a1.Parse(s + "1"); c != (a1.Cell{}) || e != api.ErrA1 {
				t.Errorf("Parse(%q) = %v, %d; want ErrA1", s+"1", c, e)
			}
		}
	}
}

// edges are numbers around the limits of columns and rows.
var edges = []int{math.MinInt, -9999, -702, -1, 0, 1, 2, 26, 27, 701, 702, 703, 9998, 9999, 10000, 1 << 32, math.MaxInt}

// P7.2: the limits are allowed themselves; what is not valid has no Text.
func TestRight(t *testing.T) {
	for _, col := range edges {
		for _, row := range edges {
			c := a1.Cell{Col: col, Row: row}
			right := col > 0 && col < 703 && row > 0 && row < 10000
			if got := c.Right(); got != right {
				t.Errorf("%v: Right = %t; want %t", c, got, right)
			}
			if got := c.Text(); (got != "") != right {
				t.Errorf("%v: Text = %q", c, got)
			}
		}
	}
	if (a1.Cell{}).Right() {
		t.Error("the zero Cell is valid")
	}
}

// P7.2, and the document's example.
func TestTextAndParse(t *testing.T) {
	for s, c := range map[string]a1.Cell{
		"A1": {Col: 1, Row: 1}, "B12": {Col: 2, Row: 12}, "Z1": {Col: 26, Row: 1}, "AA1": {Col: 27, Row: 1}, "C10": {Col: 3, Row: 10},
		"A9999": {Col: 1, Row: 9999}, "ZZ1": {Col: 702, Row: 1}, "ZZ9999": {Col: 702, Row: 9999}, "AZ1000": {Col: 52, Row: 1000}, "BA100": {Col: 53, Row: 100}, "ZA9": {Col: 677, Row: 9},
	} {
		if got := c.Text(); got != s {
			t.Errorf("%v: Text = %q; want %q", c, got, s)
		}
		if got, e := a1.Parse(s); got != c || e != api.OK {
			t.Errorf("Parse(%q) = %v, %d; want %v", s, got, e, c)
		}
	}
}

// P7.2: a string that is near the name of a cell is none.
func TestParseOfNone(t *testing.T) {
	for _, s := range []string{
		"", "A", "Z", "AA", "ZZ", "1", "12", "9999",
		"A0", "ZZ0", "A00", "A01", "A001", "A0001", "A00001", "A10000", "A99999", "ZZ10000", "A09999", "AAA1", "ZZZ1", "ABC12", "ZZA1",
		"a1", "aA1", "Aa1", "b12", "zz9999",
		" A1", "A1 ", "A 1", "\tA1", "A1\n", "A1\x00", "\x00A1", "A\x001",
		"A-1", "A+1", "-A1", "A1-", "A--1", "A1.0", "A1.", "A.1", "A1,5", "A1e0", "A1e1", "A0x1", "A0b1", "A1_0", "A_1",
		"1A", "1A1", "A1A", "A1B2", "A1:A1", "A1:B2", ":A1", "A1:", "$A$1", "A$1", "$A1", "R1C1", "@1", "[1", "A@1", "A/", "A:",
		"A１", "Ａ1", "É1", "A1é", "A٣", "A\xff1", "\xffA1", "A1\xff",
		"A18446744073709551617", "A4294967297", "A9223372036854775808", "A-9223372036854775808",
		strings.Repeat("A", 14) + "1", strings.Repeat("A", 65) + "1", "A" + strings.Repeat("0", 70) + "1", "A" + strings.Repeat("9", 1<<16), strings.Repeat("Z", 1<<16) + "1",
	} {
		if got, e := a1.Parse(s); got != (a1.Cell{}) || e != api.ErrA1 {
			t.Errorf("Parse(%q) = %v, %d; want ErrA1", s, got, e)
		}
	}
}
