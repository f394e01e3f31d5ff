package gauss_test

import (
	"math"
	"slices"
	"testing"

	"quadrille/api"
	"quadrille/gauss"
)

// most is the greatest part of a number, as the document says.
const most = 1048576

// of returns the number with these parts, which are in range.
func of(t *testing.T, re, im int) gauss.Num {
	t.Helper()
	n, e := gauss.Of(re, im)
	if e != api.OK {
		t.Fatalf("Of(%d, %d): error %d", re, im, e)
	}
	return n
}

// want fails the test unless a call answered the number and the error that were wanted.
func want(t *testing.T, call string, got gauss.Num, e api.Errno, number gauss.Num, errno api.Errno) {
	t.Helper()
	if got != number || e != errno {
		t.Errorf("%s = %v, %d; want %v, %d", call, got, e, number, errno)
	}
	plain(t, call, got)
}

// plain fails the test if a part of a number is the float -0, which prints otherwise than 0.
func plain(t *testing.T, call string, n gauss.Num) {
	t.Helper()
	for _, part := range []float64{real(n), imag(n)} {
		if part == 0 && math.Signbit(part) {
			t.Errorf("%s = %v: a part is -0", call, n)
		}
	}
}

func TestMost(t *testing.T) {
	if gauss.Most != most {
		t.Error(gauss.Most)
	}
}

// P2.1
func TestOfAndParts(t *testing.T) {
	for _, c := range [][2]int{
		{0, 0}, {1, 0}, {0, 1}, {-1, 0}, {0, -1}, {3, -4}, {-3, 4}, {12, 345}, {-12, -345},
		{most, 0}, {-most, 0}, {0, most}, {0, -most},
		{most, most}, {most, -most}, {-most, most}, {-most, -most}, {most - 1, 1 - most},
	} {
		n, e := gauss.Of(c[0], c[1])
		want(t, "Of", n, e, gauss.Num(complex(float64(c[0]), float64(c[1]))), api.OK)
		if re, im := n.Parts(); re != c[0] || im != c[1] {
			t.Errorf("Parts of Of(%d, %d) = %d, %d", c[0], c[1], re, im)
		}
	}
}

// P2.1
func TestOfRejects(t *testing.T) {
	for _, far := range []int{
		most + 1, -most - 1, 2 * most, -2 * most, 1 << 31, -1 << 31, 1 << 32, -1 << 32,
		math.MaxInt, math.MinInt, math.MaxInt - 1, math.MinInt + 1,
	} {
		for _, near := range []int{0, 1, -5, most, -most, far} {
			got, e := gauss.Of(far, near)
			want(t, "Of", got, e, 0, api.ErrNum)
			got, e = gauss.Of(near, far)
			want(t, "Of", got, e, 0, api.ErrNum)
		}
	}
}

// P2.2
func TestAdd(t *testing.T) {
	for _, c := range []struct {
		l      []gauss.Num
		number gauss.Num
		errno  api.Errno
	}{
		{nil, 0, api.OK},
		{[]gauss.Num{}, 0, api.OK},
		{[]gauss.Num{3 - 4i}, 3 - 4i, api.OK},
		{[]gauss.Num{2 + 3i, -1 + 4i}, 1 + 7i, api.OK},
		{[]gauss.Num{2 + 3i, -1 + 4i, 2 + 3i}, 3 + 10i, api.OK},
		{[]gauss.Num{5 - 2i, -5 + 2i}, 0, api.OK},
		{[]gauss.Num{1, 1i, -1, -1i, 7}, 7, api.OK},
		{[]gauss.Num{most - 1 - (most-1)*1i, 1 - 1i}, most - most*1i, api.OK},
		{[]gauss.Num{-most, most, most}, most, api.OK},
		{[]gauss.Num{most, 1}, 0, api.ErrNum},
		{[]gauss.Num{-most, -1}, 0, api.ErrNum},
		{[]gauss.Num{5 + most*1i, 1i}, 0, api.ErrNum},
		{[]gauss.Num{5 - most*1i, -1i}, 0, api.ErrNum},
		{[]gauss.Num{most, most}, 0, api.ErrNum},
		// The sum of all is in range, that of the first two is not.
		{[]gauss.Num{most, 1, -1}, 0, api.ErrNum},
		{[]gauss.Num{-most * 1i, -1i, most * 1i}, 0, api.ErrNum},
		// From the last one on they would be out of range.
		{[]gauss.Num{-1, most, 1}, most, api.OK},
		{[]gauss.Num{-1i, 1i, most * 1i}, most * 1i, api.OK},
	} {
		got, e := gauss.Add(c.l...)
		want(t, "Add", got, e, c.number, c.errno)
	}
}

// P2.2
func TestMul(t *testing.T) {
	for _, c := range []struct {
		l      []gauss.Num
		number gauss.Num
		errno  api.Errno
	}{
		{nil, 1, api.OK},
		{[]gauss.Num{}, 1, api.OK},
		{[]gauss.Num{3 - 4i}, 3 - 4i, api.OK},
		{[]gauss.Num{3 + 4i, 3 - 4i}, 25, api.OK},
		{[]gauss.Num{2 + 3i, -1 + 4i}, -14 + 5i, api.OK},
		{[]gauss.Num{1i, 1i}, -1, api.OK},
		{[]gauss.Num{1i, 1i, 1i}, -1i, api.OK},
		{[]gauss.Num{1 + 1i, 2 - 1i, -3}, -9 - 3i, api.OK},
		{[]gauss.Num{-1, 0}, 0, api.OK},
		{[]gauss.Num{0, -1 - 1i}, 0, api.OK},
		{[]gauss.Num{-5, 3i}, -15i, api.OK},
		{[]gauss.Num{1024, 1024}, most, api.OK},
		{[]gauss.Num{1024i, 1024i}, -most, api.OK},
		{[]gauss.Num{-1024, 1024i}, -most * 1i, api.OK},
		{[]gauss.Num{most - most*1i, -1i}, -most - most*1i, api.OK},
		// 1030 times 1030 alone is out of range, the parts of the product are not.
		{[]gauss.Num{1030 + 200i, 1030 + 200i}, 1020900 + 412000i, api.OK},
		{[]gauss.Num{17, 61681}, 0, api.ErrNum}, // Most + 1
		{[]gauss.Num{-17, 61681}, 0, api.ErrNum},
		{[]gauss.Num{17i, 61681}, 0, api.ErrNum},
		{[]gauss.Num{-17i, 61681}, 0, api.ErrNum},
		{[]gauss.Num{1024 + 1024i, 1024 + 1024i}, 0, api.ErrNum}, // the first part is 0, the second one too great
		{[]gauss.Num{1024 + 1024i, 1024 - 1024i}, 0, api.ErrNum}, // the first part is too great, the second one 0
		{[]gauss.Num{most + most*1i, most + most*1i}, 0, api.ErrNum},
		{[]gauss.Num{-most + most*1i, most + most*1i}, 0, api.ErrNum},
		// The product of all is in range, that of the first two is not.
		{[]gauss.Num{most, 2, 0}, 0, api.ErrNum},
		{[]gauss.Num{most, most, 0, 1}, 0, api.ErrNum},
		// From the last one on they would be out of range.
		{[]gauss.Num{0, most, most}, 0, api.OK},
	} {
		got, e := gauss.Mul(c.l...)
		want(t, "Mul", got, e, c.number, c.errno)
	}
}

// P2.2: what is handed in stays as it was, with its spare capacity.
func TestArgumentsAreNotChanged(t *testing.T) {
	for _, call := range []func(...gauss.Num) (gauss.Num, api.Errno){gauss.Add, gauss.Mul} {
		all := []gauss.Num{2 + 3i, -1 + 4i, 7i, most, 9, 9}
		before := slices.Clone(all)
		for i := range 5 {
			call(all[:i]...)
			if !slices.Equal(all, before) {
				t.Fatal(i, all)
			}
		}
	}
}

// P2.2
func TestConjAndNorm(t *testing.T) {
	for _, c := range []struct {
		n, conj gauss.Num
		norm    int
	}{
		{0, 0, 0},
		{1, 1, 1},
		{-5, -5, 25},
		{1i, -1i, 1},
		{-7i, 7i, 49},
		{3 + 4i, 3 - 4i, 25},
		{3 - 4i, 3 + 4i, 25},
		{-2 - 3i, -2 + 3i, 13},
		{most, most, 1 << 40},
		{-most * 1i, most * 1i, 1 << 40},
		{most + most*1i, most - most*1i, 1 << 41},
		{-most - (most-1)*1i, -most + (most-1)*1i, 1<<40 + 1048575*1048575},
	} {
		if got := c.n.Conj(); got != c.conj {
			t.Errorf("Conj of %v = %v; want %v", c.n, got, c.conj)
		} else {
			plain(t, "Conj", got)
		}
		if got := c.n.Norm(); got != c.norm {
			t.Errorf("Norm of %v = %d; want %d", c.n, got, c.norm)
		}
	}
}
