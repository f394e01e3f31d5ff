package gauss_test

import (
	"testing"

	"quadrille/api"
	"quadrille/gauss"
)

// parts returns parts of numbers: small ones, some about powers of two, some mixed ones, and the limits.
func parts() []int {
	l := []int{0, 3, -3, 7, 10, -10, 724, -725, 1023, 1448, -1449, 61681}
	for power := 1; power < most; power *= 4 {
		l = append(l, power, -power, power+1, -power-1)
	}
	mixed := uint64(1)
	for i := range 10 {
		mixed = mixed*6364136223846793005 + 1442695040888963407
		l = append(l, int(mixed>>(44+i)), -int(mixed>>(45+i)))
	}
	return append(l, most, -most, most-1, 1-most)
}

// samples returns the numbers with every two of these parts.
func samples(t *testing.T) []gauss.Num {
	t.Helper()
	var l []gauss.Num
	for _, re := range parts() {
		for _, im := range parts() {
			l = append(l, of(t, re, im))
		}
	}
	return l
}

// step is how many samples a test of pairs goes on at once, to be done soon; it begins elsewhere for each first number.
const step = 37

// inRange says whether there is a number with these parts.
func inRange(re, im int) bool {
	return re >= -most && re <= most && im >= -most && im <= most
}

// exactly fails the test unless a call answered the number with these parts, or ErrNum if there is none.
func exactly(t *testing.T, call string, got gauss.Num, e api.Errno, re, im int) {
	t.Helper()
	if !inRange(re, im) {
		want(t, call, got, e, 0, api.ErrNum)
		return
	}
	want(t, call, got, e, gauss.Num(complex(float64(re), float64(im))), api.OK)
}

// P2.2: what Add and Mul answer for two numbers is what integers answer.
func TestPairs(t *testing.T) {
	all := samples(t)
	for i, n := range all {
		a, b := n.Parts()
		for j := i % step; j < len(all); j += step {
			c, d := all[j].Parts()
			got, e := gauss.Add(n, all[j])
			exactly(t, "Add", got, e, a+c, b+d)
			got, e = gauss.Mul(n, all[j])
			exactly(t, "Mul", got, e, a*c-b*d, a*d+b*c)
		}
	}
}

// P2.1, P2.2: what is asked of one number is what integers answer.
func TestSingles(t *testing.T) {
	for _, a := range parts() {
		for _, b := range parts() {
			n := of(t, a, b)
			if re, im := n.Parts(); re != a || im != b {
				t.Errorf("Parts of %v = %d, %d", n, re, im)
			}
			exactly(t, "Conj", n.Conj(), api.OK, a, -b)
			if n.Norm() != a*a+b*b {
				t.Errorf("Norm of %v = %d", n, n.Norm())
			}
		}
	}
}

// P2.4
func TestParseInvertsText(t *testing.T) {
	for _, n := range samples(t) {
		if got, ok := gauss.Parse(n.Text()); !ok || got != n {
			t.Errorf("Parse of %q = %v, %t; want %v", n.Text(), got, ok, n)
		}
	}
}

// P2.4
func TestNormOfProduct(t *testing.T) {
	all, products := samples(t), 0
	for i, a := range all {
		for j := i % step; j < len(all); j += step {
			b := all[j]
			if n, e := gauss.Mul(a, b); e == api.OK {
				products++
				if n.Norm() != a.Norm()*b.Norm() {
					t.Errorf("Norm of %v times %v = %d", a, b, n.Norm())
				}
			}
		}
	}
	if products < 1000 {
		t.Error("few products are in range:", products)
	}
}
