package dec_test

import (
	"math/big"
	"testing"

	"quadrille/api"
	"quadrille/dec"
)

// samples returns numbers of all sizes: those at the edges of the range, of integers, of halves and of powers of two, and some between.
func samples() []dec.Dec {
	l := []dec.Dec{0, greatestWhole, leastWhole, dec.Greatest, dec.Least, 1537228672809129302, 1229782938247303441}
	for _, d := range []dec.Dec{3, 7, 333333, 499999, 500000, 999999, 1000000, 1500000, 2500000, 12345678, 3037000499976049} {
		l = append(l, d, -d)
	}
	for i := range 63 {
		power := dec.Dec(1) << i
		l = append(l, power, -power, power-1, 1-power, power+1, -1-power)
	}
	mixed := uint64(1)
	for i := range 60 {
		mixed = mixed*6364136223846793005 + 1442695040888963407
		l = append(l, dec.Dec(mixed)>>i)
	}
	return l
}

// whole returns a number's millionths.
func whole(d dec.Dec) *big.Int { return big.NewInt(int64(d)) }

// rounded returns a divided by b, halfway cases away from zero.
func rounded(a, b *big.Int) *big.Int {
	twice := new(big.Int).Mul(new(big.Int).Abs(a), big.NewInt(2))
	twice.Add(twice, new(big.Int).Abs(b))
	n := twice.Quo(twice, new(big.Int).Mul(new(big.Int).Abs(b), big.NewInt(2)))
	if a.Sign()*b.Sign() < 0 {
		n.Neg(n)
	}
	return n
}

// down returns the greatest integer that is not greater than a divided by b.
func down(a, b *big.Int) *big.Int {
	n, rest := new(big.Int).QuoRem(a, b, new(big.Int))
	if rest.Sign()*b.Sign() < 0 {
		n.Sub(n, big.NewInt(1))
	}
	return n
}

// exactly fails the test unless a call answered the number, or ErrNum if it is out of range.
func exactly(t *testing.T, call string, a, b, got dec.Dec, e api.Errno, number *big.Int) {
	t.Helper()
	wanted, errno := dec.Dec(0), api.ErrNum
	if number.IsInt64() {
		wanted, errno = dec.Dec(number.Int64()), api.OK
	}
	if got != wanted || e != errno {
		t.Errorf("%s of %d and %d = %d, %d; want %d, %d", call, a, b, got, e, wanted, errno)
	}
}

// P1.1, P1.2, P1.3: what the functions of two numbers answer is what integers of any size answer.
func TestPairs(t *testing.T) {
	scale := big.NewInt(1000000)
	for _, a := range samples() {
		for _, b := range samples() {
			x, y := whole(a), whole(b)
			got, e := dec.Add(a, b)
			exactly(t, "Add", a, b, got, e, new(big.Int).Add(x, y))
			got, e = dec.Sub(a, b)
			exactly(t, "Sub", a, b, got, e, new(big.Int).Sub(x, y))
			got, e = dec.Mul(a, b)
			exactly(t, "Mul", a, b, got, e, rounded(new(big.Int).Mul(x, y), scale))
			if b == 0 {
				continue
			}
			got, e = dec.Div(a, b)
			exactly(t, "Div", a, b, got, e, rounded(new(big.Int).Mul(x, scale), y))
			got, e = dec.Mod(a, b)
			exactly(t, "Mod", a, b, got, e, new(big.Int).Sub(x, new(big.Int).Mul(y, down(x, y))))
		}
	}
}

// P1.1, P1.3: what the functions of one number answer is what integers of any size answer.
func TestSingles(t *testing.T) {
	scale := big.NewInt(1000000)
	for _, a := range samples() {
		got, e := dec.Of(int64(a))
		exactly(t, "Of", a, 0, got, e, new(big.Int).Mul(whole(a), scale))
		got, e = dec.Neg(a)
		exactly(t, "Neg", a, 0, got, e, new(big.Int).Neg(whole(a)))
		got, e = dec.Floor(a)
		exactly(t, "Floor", a, 0, got, e, new(big.Int).Mul(down(whole(a), scale), scale))
		for places := range 7 {
			unit := new(big.Int).Exp(big.NewInt(10), big.NewInt(int64(6-places)), nil)
			got, e = dec.Round(a, places)
			exactly(t, "Round", a, dec.Dec(places), got, e, new(big.Int).Mul(rounded(whole(a), unit), unit))
		}
	}
}

// P1.5
func TestParseInvertsText(t *testing.T) {
	for _, d := range samples() {
		if got, ok := dec.Parse(d.Text()); !ok || got != d {
			t.Errorf("Parse of %q = %d, %t; want %d", d.Text(), got, ok, d)
		}
	}
}

// P1.5
func TestAddAndSubInvertEachOther(t *testing.T) {
	for _, a := range samples() {
		for _, b := range samples() {
			if sum, e := dec.Add(a, b); e == api.OK {
				back, e := dec.Sub(sum, b)
				want(t, "Sub of Add", back, e, a, api.OK)
			}
			if difference, e := dec.Sub(a, b); e == api.OK {
				back, e := dec.Add(difference, b)
				want(t, "Add of Sub", back, e, a, api.OK)
			}
		}
	}
}
