package gauss_test

import (
	"regexp"
	"strconv"
	"strings"
	"testing"

	"quadrille/gauss"
)

// P2.3
func TestTextAndParse(t *testing.T) {
	for s, n := range map[string]gauss.Num{
		"0":                 0,
		"1":                 1,
		"-1":                -1,
		"7":                 7,
		"-70":               -70,
		"1000":              1000,
		"i":                 1i,
		"-i":                -1i,
		"2i":                2i,
		"-2i":               -2i,
		"10i":               10i,
		"-11i":              -11i,
		"100i":              100i,
		"1+i":               1 + 1i,
		"1-i":               1 - 1i,
		"-1+i":              -1 + 1i,
		"-1-i":              -1 - 1i,
		"3+4i":              3 + 4i,
		"3-4i":              3 - 4i,
		"-3+4i":             -3 + 4i,
		"-30-40i":           -30 - 40i,
		"10+11i":            10 + 11i,
		"1048576":           most,
		"-1048576":          -most,
		"1048576i":          most * 1i,
		"-1048576i":         -most * 1i,
		"1048576-1048576i":  most - most*1i,
		"-1048576+1048576i": -most + most*1i,
		"1048575-1048575i":  most - 1 - (most-1)*1i,
		"-5+1048576i":       -5 + most*1i,
		"-1048576-i":        -most - 1i,
	} {
		if got := n.Text(); got != s {
			t.Errorf("Text of %v = %q; want %q", n, got, s)
		}
		if got, ok := gauss.Parse(s); !ok || got != n {
			t.Errorf("Parse(%q) = %v, %t; want %v", s, got, ok, n)
		} else {
			plain(t, "Parse", got)
		}
	}
}

// P2.3
func TestParseRejects(t *testing.T) {
	for _, s := range []string{
		"", "+", "-", "+-", "--", "a", "x", "ii", "I", "-I", "1I", "j", "2j",
		"-0", "+0", "00", "+1", "01", "-01", "007", "--1", "+-1", "-+1", "1-", "1+", "- 1",
		"0i", "-0i", "+0i", "1i", "-1i", "+i", "+2i", "02i", "-02i", "--i", "-+i", "i1", "i2", "2ii", "2i2", "i-",
		"0+i", "0-i", "0+2i", "-0+2i", "-0-i", "1+0i", "1-0i", "0+0i", "1+1i", "1-1i", "3+04i", "3-04i", "03+4i",
		"+3+4i", "3+-4i", "3-+4i", "3--4i", "3++4i", "3+4", "3-4", "1+2+3i", "1+2i+3i", "1i+2", "2i+1", "i+1", "1+i2", "1+ii", "3+4i5",
		" 1", "1 ", "1 + i", "1 +i", "1+ i", "1+i ", " i", "i ", "2 i", "1\n", "i\n", "\t1", "1\x00", "\x00i",
		"1.0", "1.5", "1.5i", "1e3", "1e3i", "0x10", "0x10i", "0b1", "1_000", "1_000i", "1,000", "(1+i)", "1*i", "NaN", "Inf", "-Inf", "Infi",
		"/", ":", "1/", "1:", "/i", ":i", "1+:i", "\u0661", "\u0661i", "\uff11", "\u22121", "1\u2212i", "1\xff", "\xb1", "\xff",
		"1048577", "-1048577", "1048577i", "-1048577i", "1+1048577i", "1-1048577i", "1048577+i", "-1048577-i", "1048577-1048577i",
		"2147483648", "4294967296", "4294967297", "4294967296i", "9223372036854775807", "-9223372036854775808", "9223372036854775808",
		"18446744073709551616", "18446744073709551617", "18446744073709551617i", "-18446744073709551615", "5+18446744073709551618i",
		"1" + strings.Repeat("0", 999), strings.Repeat("0", 999) + "1", "1+" + strings.Repeat("9", 999) + "i",
		strings.Repeat("9", 999) + "+i", strings.Repeat("-", 999) + "i", strings.Repeat("i", 999),
	} {
		if n, ok := gauss.Parse(s); ok || n != 0 {
			t.Errorf("Parse(%q) = %v, %t; want 0, false", s, n, ok)
		}
	}
}

// texts is what Text may write, but for the range.
var texts = regexp.MustCompile(`^(0|-?[1-9][0-9]*|(-?|-?[1-9][0-9]*[+-])([2-9]|[1-9][0-9]+)?i)$`)

// P2.3: every short string is read exactly if it is the text of a number.
func TestParseShortStrings(t *testing.T) {
	short := []string{""}
	for range 7 {
		var longer []string
		for _, s := range short {
			n, ok := gauss.Parse(s)
			if ok != texts.MatchString(s) || !ok && n != 0 {
				t.Errorf("Parse(%q) = %v, %t", s, n, ok)
			}
			if ok {
				sameNumber(t, s, n)
			}
			for _, c := range "+-i012" {
				longer = append(longer, s+string(c))
			}
		}
		short = longer
	}
}

// oneWritten is an i without digits, which strconv does not read.
var oneWritten = regexp.MustCompile(`(^|[+-])i$`)

// sameNumber fails the test unless a text says a number, by other means.
func sameNumber(t *testing.T, s string, n gauss.Num) {
	t.Helper()
	said, err := strconv.ParseComplex(oneWritten.ReplaceAllString(s, "${1}1i"), 128)
	if err != nil || gauss.Num(said) != n {
		t.Errorf("%q is not %v: %v", s, n, err)
	}
}

// P2.3: Text has the form that the document names, and says the number.
func TestTextForm(t *testing.T) {
	for _, n := range samples(t) {
		s := n.Text()
		if !texts.MatchString(s) {
			t.Errorf("Text of %v = %q", n, s)
		}
		sameNumber(t, s, n)
	}
}
