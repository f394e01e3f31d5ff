// Package dec computes with decimal numbers of six fractional digits, exactly or rounded half away from zero.
package dec

import (
	"math/bits"
	"strconv"
	"strings"

	"quadrille/api"
)

// Dec is a number, in millionths.
type Dec int64

// The least number, and the greatest.
const (
	Least    Dec = -1 << 63
	Greatest Dec = 1<<63 - 1
)

// Places is how many fractional digits a number has.
const Places = 6

// Of returns the integer n as a number; ErrNum: it is out of range.
func Of(n int64) (Dec, api.Errno) {
	if n > int64(Greatest/api.Scale) || n < int64(Least/api.Scale) {
		return 0, api.ErrNum
	}
	return Dec(n) * api.Scale, api.OK
}

// Add returns a + b; ErrNum: the sum is out of range.
func Add(a, b Dec) (Dec, api.Errno) {
	sum := a + b
	if (sum > a) != (b > 0) {
		return 0, api.ErrNum
	}
	return sum, api.OK
}

// Sub returns a - b; ErrNum: the difference is out of range.
func Sub(a, b Dec) (Dec, api.Errno) {
	difference := a - b
	if (difference < a) != (b > 0) {
		return 0, api.ErrNum
	}
	return difference, api.OK
}

// Neg returns -a; ErrNum: a is Least.
func Neg(a Dec) (Dec, api.Errno) {
	return Sub(0, a)
}

// Mul returns a times b, rounded; ErrNum: the product is out of range.
func Mul(a, b Dec) (Dec, api.Errno) {
	high, low := bits.Mul64(size(a), size(b))
	return quotient((a < 0) != (b < 0), high, low, api.Scale)
}

// Div returns a divided by b, rounded; ErrDiv: b is 0; ErrNum: the quotient is out of range.
func Div(a, b Dec) (Dec, api.Errno) {
	if b == 0 {
		return 0, api.ErrDiv
	}
	high, low := bits.Mul64(size(a), api.Scale)
	return quotient((a < 0) != (b < 0), high, low, size(b))
}

// Round returns the nearest number with at most so many fractional digits, halfway cases away from zero; ErrNum: it is out of range.
func Round(a Dec, places int) (Dec, api.Errno) {
	unit := unitOf(places)
	n := size(a)
	rest := n % unit
	n -= rest
	if rest >= unit-rest {
		n += unit
	}
	return signed(a < 0, n)
}

// Floor returns the greatest integer that is not greater than a; ErrNum: it is out of range.
func Floor(a Dec) (Dec, api.Errno) {
	rest := a % api.Scale
	if rest < 0 {
		rest += api.Scale
	}
	return Sub(a, rest)
}

// Mod returns what is left of a by b, with the sign of b; ErrDiv: b is 0.
func Mod(a, b Dec) (Dec, api.Errno) {
	if b == 0 {
		return 0, api.ErrDiv
	}
	rest := a % b
	if rest != 0 && (rest < 0) != (b < 0) {
		rest += b
	}
	return rest, api.OK
}

// Whole returns the integer part, truncated towards zero, and whether there is no fractional part.
func (d Dec) Whole() (int64, bool) {
	return int64(d / api.Scale), d%api.Scale == 0
}

// Text writes the number without leading and trailing zeros.
func (d Dec) Text() string {
	n := size(d)
	text := strconv.FormatUint(n/api.Scale, 10)
	if rest := n % api.Scale; rest != 0 {
		// The 1 that is put in front keeps the leading zeros of the fraction; it is cut off again.
		padded := strconv.FormatUint(api.Scale+rest, 10)
		text += "." + strings.TrimRight(padded[1:], "0")
	}
	if d < 0 {
		return "-" + text
	}
	return text
}

// Parse reads a number: perhaps a minus sign, digits, and perhaps a point with 1 to 6 digits; false: s is no such text, or out of range.
func Parse(s string) (Dec, bool) {
	unsigned, negative := strings.CutPrefix(s, "-")
	whole, fraction, point := strings.Cut(unsigned, ".")
	if whole == "" || len(fraction) > Places || point && fraction == "" {
		return 0, false
	}
	n, ok := millionths(whole, fraction)
	if !ok {
		return 0, false
	}
	d, e := signed(negative, n)
	return d, e == api.OK
}

// millionths reads the digits before the point and behind it as one count; false: one is no digit, or the count is too great for any Dec.
func millionths(whole, fraction string) (uint64, bool) {
	n := uint64(0)
	for i := range len(whole) + Places {
		digit := byte('0')
		if i < len(whole) {
			digit = whole[i]
		} else if i-len(whole) < len(fraction) {
			digit = fraction[i-len(whole)]
		}
		// 2^63 is the size of Least; beyond a tenth of it the next digit leads out of the range, and perhaps round 2^64.
		if digit < '0' || digit > '9' || n > (1<<63)/10 {
			return 0, false
		}
		n = n*10 + uint64(digit-'0')
	}
	return n, true
}

// unitOf returns how many millionths the last of so many fractional digits counts.
func unitOf(places int) uint64 {
	unit := uint64(1)
	for range Places - min(max(places, 0), Places) {
		unit *= 10
	}
	return unit
}

// size returns how far a number is from zero: unsigned, since that of Least is no Dec.
func size(a Dec) uint64 {
	if a < 0 {
		return -uint64(a)
	}
	return uint64(a)
}

// signed returns the number of a sign and a size; ErrNum: it is out of range.
func signed(negative bool, n uint64) (Dec, api.Errno) {
	if negative {
		if n > size(Least) {
			return 0, api.ErrNum
		}
		return Dec(-n), api.OK
	}
	if n > uint64(Greatest) {
		return 0, api.ErrNum
	}
	return Dec(n), api.OK
}

// quotient divides the size high * 2^64 + low by another one, rounded, and gives it a sign; ErrNum: it is out of range.
func quotient(negative bool, high, low, by uint64) (Dec, api.Errno) {
	// bits.Div64 panics on a quotient of 2^64 or more, which is out of range anyway.
	if high >= by {
		return 0, api.ErrNum
	}
	n, rest := bits.Div64(high, low, by)
	if rest >= by-rest {
		// Beyond the range already: rounding the greatest size up would lead round to 0.
		if n > size(Least) {
			return 0, api.ErrNum
		}
		n++
	}
	return signed(negative, n)
}
