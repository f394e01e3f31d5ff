package stamp_test

import (
	"math"
	"strconv"
	"strings"
	"testing"

	"quadrille/api"
	"quadrille/stamp"
)

// P5.3
func TestDecimal(t *testing.T) {
	for _, c := range []struct {
		n int
		s string
	}{
		{0, "0"}, {1, "1"}, {7, "7"}, {9, "9"}, {10, "10"}, {42, "42"}, {99, "99"}, {100, "100"}, {101, "101"}, {1000, "1000"},
		{-1, "-1"}, {-9, "-9"}, {-10, "-10"}, {-100, "-100"}, {-105, "-105"},
		{1234567890, "1234567890"}, {1 << 40, "1099511627776"}, {-1 << 40, "-1099511627776"}, {1 << 32, "4294967296"},
		{math.MaxInt, "9223372036854775807"}, {math.MinInt, "-9223372036854775808"}, {math.MinInt + 1, "-9223372036854775807"},
	} {
		if got := stamp.Decimal(c.n); got != c.s {
			t.Errorf("Decimal(%d) = %q; want %q", c.n, got, c.s)
		}
	}
}

// read fails the test unless Number returns a number for a string.
func read(t *testing.T, s string, most, wanted int) {
	t.Helper()
	if n, ok := stamp.Number(s, most); n != wanted || !ok {
		t.Errorf("Number(%q, %d) = %d, %t; want %d, true", s, most, n, ok, wanted)
	}
}

// noNumber fails the test unless Number rejects a string.
func noNumber(t *testing.T, s string, most int) {
	t.Helper()
	if n, ok := stamp.Number(s, most); n != 0 || ok {
		t.Errorf("Number(%q, %d) = %d, %t; want 0, false", s, most, n, ok)
	}
}

// P5.3: the greatest number is allowed itself; no number is from 0 to a negative one.
func TestNumber(t *testing.T) {
	for _, n := range []int{0, 1, 5, 9, 10, 11, 64, 99, 100, 255, 256, 65536, 1 << 20, 1<<32 - 1, 1 << 32, 1 << 40, math.MaxInt - 1, math.MaxInt} {
		s := strconv.Itoa(n)
		read(t, s, n, n)
		read(t, s, math.MaxInt, n)
		noNumber(t, s, n-1)
		noNumber(t, s, -1)
		noNumber(t, s, math.MinInt)
		noNumber(t, "-"+s, math.MaxInt)
		noNumber(t, "-"+s, -1)
		noNumber(t, "+"+s, math.MaxInt)
		noNumber(t, "0"+s, math.MaxInt)
		noNumber(t, "00"+s, math.MaxInt)
		noNumber(t, " "+s, math.MaxInt)
		noNumber(t, s+" ", math.MaxInt)
		noNumber(t, s+"\n", math.MaxInt)
		noNumber(t, s+"\x00", math.MaxInt)
		noNumber(t, s+".", math.MaxInt)
		noNumber(t, s+"a", math.MaxInt)
		noNumber(t, "0x"+s, math.MaxInt)
	}
}

// P5.3
func TestNumberRejects(t *testing.T) {
	for _, s := range []string{
		"", " ", "-", "+", "--1", "-0", "+0", "-1", "00", "01", "007", "1_0", "1 0", "1,000", "1e2", "1.0", "0.5", "0x1f", "0b1", "0o7", "1f", "a", "@", "1@", "6@1", "--0", "\x00",
		// Digits of other scripts, and bytes that are no text.
		"\u0661", "\uff11", "1\u0662", "\xff", "1\x80",
		// Numbers that no int holds; some would be small ones after a wrap-round.
		"9223372036854775808", "9223372036854775809", "18446744073709551615", "18446744073709551616", "18446744073709551617", "18446744073709551621",
		"36893488147419103233", "340282366920938463463374607431768211457", "-9223372036854775808", "-18446744073709551615",
		strings.Repeat("9", 1000), "1" + strings.Repeat("0", 1000), strings.Repeat("0", 1000), strings.Repeat("0", 1000) + "1",
	} {
		noNumber(t, s, math.MaxInt)
		noNumber(t, s, 64)
		noNumber(t, s, 0)
	}
}

// P5.3: any stamp has a Text, also one that is not valid.
func TestText(t *testing.T) {
	for _, c := range []struct {
		time    uint64
		replica int
		s       string
	}{
		{12, 3, "12@3"}, {6, 1, "6@1"}, {0, 0, "0@0"}, {0, 1, "0@1"}, {1, 0, "1@0"}, {10, 64, "10@64"}, {5, 65, "5@65"},
		{1 << 40, 64, "1099511627776@64"}, {1<<40 + 1, 100, "1099511627777@100"}, {1 << 63, 7, "9223372036854775808@7"},
		{math.MaxUint64, math.MaxInt, "18446744073709551615@9223372036854775807"},
		{5, -1, "5@-1"}, {0, -10, "0@-10"}, {1, math.MinInt, "1@-9223372036854775808"},
	} {
		if got := stamp.Text(api.ID{Time: c.time, Replica: c.replica}); got != c.s {
			t.Errorf("Text of time %d, replica %d = %q; want %q", c.time, c.replica, got, c.s)
		}
	}
}

// P5.3: Parse returns each valid stamp from its Text, and rejects the Text of every other one.
func TestParseInvertsText(t *testing.T) {
	for _, a := range ascending() {
		s := stamp.Text(a)
		valid := a.Time <= 1<<40 && a.Replica >= 0 && a.Replica <= 64 && (a.Time > 0 || a.Replica > 0)
		got, ok := stamp.Parse(s)
		if ok != valid {
			t.Errorf("Parse(%q) = %v, %t; want %t", s, got, ok, valid)
		}
		if !valid {
			a = api.ID{}
		}
		if got != a {
			t.Errorf("Parse(%q) = %v; want %v", s, got, a)
		}
	}
}

// P5.3: every replica, and some times with each.
func TestParseEveryReplica(t *testing.T) {
	for replica := range 65 {
		for _, time := range []uint64{1, 2, 12, 1<<40 - 1, 1 << 40} {
			wanted := api.ID{Time: time, Replica: replica}
			s := strconv.FormatUint(time, 10) + "@" + strconv.Itoa(replica)
			if got, ok := stamp.Parse(s); got != wanted || !ok {
				t.Errorf("Parse(%q) = %v, %t; want %v, true", s, got, ok, wanted)
			}
			noStamp(t, "0"+s)
			noStamp(t, "+"+s)
			noStamp(t, "-"+s)
			noStamp(t, s+"@")
			noStamp(t, s+"@1")
			noStamp(t, "@"+s)
			noStamp(t, s+" ")
			noStamp(t, " "+s)
			noStamp(t, s+"\n")
			noStamp(t, s+"\x00")
			noStamp(t, strings.Replace(s, "@", "", 1))
			noStamp(t, strings.Replace(s, "@", "@@", 1))
			noStamp(t, strings.Replace(s, "@", "@0", 1))
			noStamp(t, strings.Replace(s, "@", "@+", 1))
			noStamp(t, strings.Replace(s, "@", "@-", 1))
			noStamp(t, strings.Replace(s, "@", "@ ", 1))
			noStamp(t, strings.Replace(s, "@", " @", 1))
			noStamp(t, strings.Replace(s, "@", "#", 1))
			noStamp(t, strings.Replace(s, "@", "\uff20", 1))
		}
	}
}

// noStamp fails the test unless Parse rejects a string.
func noStamp(t *testing.T, s string) {
	t.Helper()
	if a, ok := stamp.Parse(s); a != (api.ID{}) || ok {
		t.Errorf("Parse(%q) = %v, %t; want the zero ID, false", s, a, ok)
	}
}

// P5.3
func TestParseRejects(t *testing.T) {
	for _, s := range []string{
		"", "6", "@", "6@", "@1", "@@", "06@1", "6@01", "00@1", "6@00", "6@65", "6@100", "0@0", "6@1@", "6@1@1", "-1@2", "1@-2", "-0@1", "1@-0", "+1@2", "1@+2",
		"1099511627777@1", "1099511627777@0", "2199023255552@1", "1e3@1", "1.0@1", "1@1.0", "0x1@1", "a@1", "1@a", "1_0@1", "1@1_0", "1 @1", "1@ 1", "1 1", "1:1", "1@1,2@2",
		// Numbers that would be small ones after a wrap-round.
		"18446744073709551617@1", "18446744073709551615@1", "9223372036854775808@1", "1@18446744073709551617", "1@4294967297", "1@9223372036854775809",
		"\u0661@1", "1@\u0661", "\xff@1", "1@\xff", strings.Repeat("0", 1000) + "@1", strings.Repeat("9", 1000) + "@1", "1@" + strings.Repeat("0", 1000) + "1", strings.Repeat("@", 1000),
	} {
		noStamp(t, s)
	}
}

// visitAll hands every string of up to so many bytes of an alphabet to visit, each once.
func visitAll(alphabet string, most int, visit func(s string)) {
	level := []string{""}
	for range most + 1 {
		var next []string
		for _, s := range level {
			visit(s)
			for i := range len(alphabet) {
				next = append(next, s+alphabet[i:i+1])
			}
		}
		level = next
	}
}

// P5.3: of all short strings, Number accepts those that Decimal writes, and Parse those that Text writes.
func TestEveryShortString(t *testing.T) {
	numbers := map[string]int{}
	for n := range 1000 {
		numbers[stamp.Decimal(n)] = n
	}
	visitAll("0123456789+-_ .xe@", 3, func(s string) {
		wanted, is := numbers[s]
		for _, most := range []int{-1, 0, 9, 64, 100, 998, 999, math.MaxInt} {
			if is && wanted <= most {
				read(t, s, most, wanted)
			} else {
				noNumber(t, s, most)
			}
		}
	})
	stamps := map[string]api.ID{}
	for time := range 10000 {
		for replica := range 65 {
			a := api.ID{Time: uint64(time), Replica: replica}
			stamps[stamp.Text(a)] = a
		}
	}
	delete(stamps, "0@0")
	visitAll("01456@-+", 6, func(s string) {
		wanted, is := stamps[s]
		if got, ok := stamp.Parse(s); got != wanted || ok != is {
			t.Errorf("Parse(%q) = %v, %t; want %v, %t", s, got, ok, wanted, is)
		}
	})
}

// P5.3: Decimal has one form, which is held against the digits one by one, and different numbers have different ones.
func TestDecimalForm(t *testing.T) {
	for i := range 63 {
		for _, n := range []int{1 << i, 1<<i - 1, 1<<i + 1, -1 << i, 1 - 1<<i} {
			s := stamp.Decimal(n)
			digits, negative := strings.CutPrefix(s, "-")
			if negative != (n < 0) || digits == "" || digits[0] == '0' && digits != "0" {
				t.Errorf("Decimal(%d) = %q", n, s)
			}
			back := 0
			for _, digit := range digits {
				if digit < '0' || digit > '9' {
					t.Errorf("Decimal(%d) = %q", n, s)
				}
				back = 10*back + int(digit-'0')
			}
			if negative {
				back = -back
			}
			if back != n {
				t.Errorf("Decimal(%d) = %q, which is %d", n, s, back)
			}
		}
	}
}
