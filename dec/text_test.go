package dec_test

import (
	"math/big"
	"regexp"
	"strings"
	"testing"

	"quadrille/dec"
)

// P1.4
func TestWhole(t *testing.T) {
	for _, c := range []struct {
		d     dec.Dec
		n     int64
		whole bool
	}{
		{0, 0, true},
		{5000000, 5, true},
		{-5000000, -5, true},
		{1, 0, false},
		{-1, 0, false},
		{1500000, 1, false},
		{-1500000, -1, false},
		{-1999999, -1, false},
		{greatestWhole, 9223372036854, true},
		{leastWhole, -9223372036854, true},
		{dec.Greatest, 9223372036854, false},
		{dec.Least, -9223372036854, false},
	} {
		if n, whole := c.d.Whole(); n != c.n || whole != c.whole {
			t.Errorf("Whole of %d = %d, %t; want %d, %t", c.d, n, whole, c.n, c.whole)
		}
	}
}

// P1.4
func TestText(t *testing.T) {
	for d, text := range map[dec.Dec]string{
		0:            "0",
		1:            "0.000001",
		-1:           "-0.000001",
		100000:       "0.1",
		120300:       "0.1203",
		1000000:      "1",
		-1000000:     "-1",
		1500000:      "1.5",
		10000000:     "10",
		-100500000:   "-100.5",
		1000001:      "1.000001",
		dec.Greatest: "9223372036854.775807",
		dec.Least:    "-9223372036854.775808",
		leastWhole:   "-9223372036854",
	} {
		if got := d.Text(); got != text {
			t.Errorf("Text of %d = %q; want %q", d, got, text)
		}
	}
}

// P1.4
func TestParse(t *testing.T) {
	for s, d := range map[string]dec.Dec{
		"0":                             0,
		"-0":                            0,
		"-0.000000":                     0,
		"00":                            0,
		"007":                           7000000,
		"-007.5":                        -7500000,
		"1.50":                          1500000,
		"1.5":                           1500000,
		"0.000001":                      1,
		"-0.000001":                     -1,
		"1.000000":                      1000000,
		"9223372036854.775807":          dec.Greatest,
		"-9223372036854.775808":         dec.Least,
		"9223372036854":                 greatestWhole,
		"-9223372036854.0":              leastWhole,
		"09223372036854.775807":         dec.Greatest,
		strings.Repeat("0", 999):        0,
		strings.Repeat("0", 99) + "1.2": 1200000,
	} {
		if got, ok := dec.Parse(s); !ok || got != d {
			t.Errorf("Parse(%q) = %d, %t; want %d", s, got, ok, d)
		}
	}
}

// P1.4
func TestParseRejects(t *testing.T) {
	for _, s := range []string{
		"", "-", ".", "-.", "--1", "- 1", "+1", "1-", "1-2",
		".5", "-.5", "1.", "-1.", "1..2", "1.2.3", "1.-2", "1.+2",
		"1.0000000", "1.1234567", "1e5", "1E5", "0x1", "1_0", "1,5", "1,000",
		" 1", "1 ", "1. 5", "1.5 ", "1\n", "1.5\n", "\x001", "1\x00",
		"a", "1a", "1.a", "1.5a", "/", "1/", ":", "1:", "1./", "1.:", "NaN", "Inf", "-Inf",
		"\u0661", "1.\u0665", "\uff11", "\u22121", "1\xff", "\xb1",
		"9223372036854.775808", "-9223372036854.775809",
		"9223372036854.775810", "-9223372036854.775810",
		"9223372036855", "-9223372036855",
		"18446744073709.551616", "18446744073709.551617", "-18446744073709.551617",
		"92233720368540", "99999999999999999999", "-99999999999999999999",
		"1" + strings.Repeat("0", 999), "1" + strings.Repeat("0", 99) + ".5",
	} {
		if d, ok := dec.Parse(s); ok || d != 0 {
			t.Errorf("Parse(%q) = %d, %t; want 0, false", s, d, ok)
		}
	}
}

// P1.4: every short text is read exactly if it is a number.
func TestParseShortTexts(t *testing.T) {
	number := regexp.MustCompile(`^-?[0-9]+(\.[0-9]{1,6})?$`)
	texts := []string{""}
	for range 6 {
		var longer []string
		for _, s := range texts {
			d, ok := dec.Parse(s)
			if ok != number.MatchString(s) {
				t.Errorf("Parse(%q) is %t", s, ok)
			}
			if ok {
				sameNumber(t, s, d)
			} else if d != 0 {
				t.Errorf("Parse(%q) = %d, false; want 0", s, d)
			}
			for _, c := range "-.059 +" {
				longer = append(longer, s+string(c))
			}
		}
		texts = longer
	}
}

// sameNumber fails the test unless a number is what a text says, by other means.
func sameNumber(t *testing.T, s string, d dec.Dec) {
	t.Helper()
	said, ok := new(big.Rat).SetString(s)
	if !ok || said.Cmp(big.NewRat(int64(d), 1000000)) != 0 {
		t.Errorf("%q is not %d millionths", s, d)
	}
}

// P1.4: Text has the form that the document names, and says the number.
func TestTextForm(t *testing.T) {
	text := regexp.MustCompile(`^-?(0|[1-9][0-9]*)(\.[0-9]{0,5}[1-9])?$`)
	for _, d := range samples() {
		s := d.Text()
		if !text.MatchString(s) || strings.HasPrefix(s, "-") != (d < 0) {
			t.Errorf("Text of %d = %q", d, s)
		}
		sameNumber(t, s, d)
	}
}
