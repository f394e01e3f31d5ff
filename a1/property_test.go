package a1_test

import (
	"regexp"
	"strconv"
	"testing"

	"quadrille/a1"
	"quadrille/api"
)

// P7.4, P7.2: every valid cell is read from its Text, so that no two have the same one.
func TestAllCells(t *testing.T) {
	for i, name := range names() {
		for row := 1; row <= api.MaxRows; row++ {
			c := a1.Cell{Col: i + 1, Row: row}
			s := c.Text()
			if s != name+strconv.Itoa(row) {
				t.Fatalf("%v: Text = %q", c, s)
			}
			if got, e := a1.Parse(s); got != c || e != api.OK {
				t.Fatalf("Parse(%q) = %v, %d; want %v", s, got, e, c)
			}
		}
	}
}

// P7.2: of all strings of at most six of these bytes, Parse reads the names of cells and no others.
func TestParseOfShortStrings(t *testing.T) {
	name := regexp.MustCompile(`^[A-Z][A-Z]?[1-9][0-9]?[0-9]?[0-9]?$`)
	const alphabet = "AZ019a-"
	var try func(s string, more int)
	try = func(s string, more int) {
		c, e := a1.Parse(s)
		if name.MatchString(s) {
			if e != api.OK || !c.Right() || c.Text() != s {
				t.Errorf("Parse(%q) = %v, %d", s, c, e)
			}
		} else if e != api.ErrA1 || c != (a1.Cell{}) {
			t.Errorf("Parse(%q) = %v, %d; want ErrA1", s, c, e)
		}
		if more == 0 {
			return
		}
		for i := range len(alphabet) {
			try(s+alphabet[i:i+1], more-1)
		}
	}
	try("", 6)
}

// P7.2: any byte in any place of a name.
func TestParseOfAnyByte(t *testing.T) {
	name := regexp.MustCompile(`^[A-Z][A-Z]?[1-9][0-9]?[0-9]?[0-9]?$`)
	for _, s := range []string{"A1", "B12", "AA1", "ZZ9999", "C100", "A", "1", ""} {
		for place := range len(s) + 1 {
			for b := range 256 {
				within := s[:place] + string([]byte{byte(b)}) + s[place:]
				c, e := a1.Parse(within)
				// A byte alone that is no UTF-8 matches nothing in the expression either.
				if got := e == api.OK; got != name.MatchString(within) || got && c.Text() != within {
					t.Errorf("Parse(%q) = %v, %d", within, c, e)
				}
			}
		}
	}
}
