package dec_test

import (
	"math"
	"testing"

	"quadrille/api"
	"quadrille/dec"
)

// The least and the greatest number that have no fractional part.
const (
	leastWhole    dec.Dec = -9223372036854000000
	greatestWhole dec.Dec = 9223372036854000000
)

// want fails the test unless a call answered the number and the error that were wanted.
func want(t *testing.T, call string, got dec.Dec, e api.Errno, number dec.Dec, errno api.Errno) {
	t.Helper()
	if got != number || e != errno {
		t.Errorf("%s = %d, %d; want %d, %d", call, got, e, number, errno)
	}
}

func TestConstants(t *testing.T) {
	if dec.Least != math.MinInt64 || dec.Greatest != math.MaxInt64 || dec.Places != 6 {
		t.Error(int64(dec.Least), int64(dec.Greatest), dec.Places)
	}
}

// P1.1
func TestOf(t *testing.T) {
	for _, c := range []struct {
		n      int64
		number dec.Dec
		errno  api.Errno
	}{
		{0, 0, api.OK},
		{1, 1000000, api.OK},
		{-1, -1000000, api.OK},
		{42, 42000000, api.OK},
		{9223372036854, greatestWhole, api.OK},
		{-9223372036854, leastWhole, api.OK},
		{9223372036855, 0, api.ErrNum},
		{-9223372036855, 0, api.ErrNum},
		{1 << 58, 0, api.ErrNum}, // times 10^6 it is 0 modulo 2^64
		{math.MaxInt64, 0, api.ErrNum},
		{math.MinInt64, 0, api.ErrNum},
	} {
		got, e := dec.Of(c.n)
		want(t, "Of", got, e, c.number, c.errno)
	}
}

// P1.1
func TestAdd(t *testing.T) {
	for _, c := range []struct {
		a, b, number dec.Dec
		errno        api.Errno
	}{
		{1500000, 250000, 1750000, api.OK},
		{1, -3, -2, api.OK},
		{dec.Greatest, 0, dec.Greatest, api.OK},
		{dec.Least, 0, dec.Least, api.OK},
		{dec.Greatest - 1, 1, dec.Greatest, api.OK},
		{dec.Least + 1, -1, dec.Least, api.OK},
		{dec.Greatest, dec.Least, -1, api.OK},
		{dec.Greatest, 1, 0, api.ErrNum},
		{1, dec.Greatest, 0, api.ErrNum},
		{dec.Greatest, dec.Greatest, 0, api.ErrNum},
		{dec.Least, -1, 0, api.ErrNum},
		{-1, dec.Least, 0, api.ErrNum},
		{dec.Least, dec.Least, 0, api.ErrNum},
	} {
		got, e := dec.Add(c.a, c.b)
		want(t, "Add", got, e, c.number, c.errno)
	}
}

// P1.1
func TestSub(t *testing.T) {
	for _, c := range []struct {
		a, b, number dec.Dec
		errno        api.Errno
	}{
		{1500000, 250000, 1250000, api.OK},
		{1, 3, -2, api.OK},
		{dec.Greatest, dec.Greatest, 0, api.OK},
		{dec.Least, dec.Least, 0, api.OK},
		{-1, dec.Least, dec.Greatest, api.OK},
		{-1, dec.Greatest, dec.Least, api.OK},
		{0, dec.Greatest, dec.Least + 1, api.OK},
		{0, dec.Least, 0, api.ErrNum},
		{-2, dec.Greatest, 0, api.ErrNum},
		{dec.Least, 1, 0, api.ErrNum},
		{dec.Greatest, -1, 0, api.ErrNum},
		{dec.Greatest, dec.Least, 0, api.ErrNum},
		{dec.Least, dec.Greatest, 0, api.ErrNum},
	} {
		got, e := dec.Sub(c.a, c.b)
		want(t, "Sub", got, e, c.number, c.errno)
	}
}

// P1.1
func TestNeg(t *testing.T) {
	for _, c := range []struct {
		a, number dec.Dec
		errno     api.Errno
	}{
		{0, 0, api.OK},
		{1, -1, api.OK},
		{-1500000, 1500000, api.OK},
		{dec.Greatest, dec.Least + 1, api.OK},
		{dec.Least + 1, dec.Greatest, api.OK},
		{dec.Least, 0, api.ErrNum},
	} {
		got, e := dec.Neg(c.a)
		want(t, "Neg", got, e, c.number, c.errno)
	}
}

// P1.2
func TestMul(t *testing.T) {
	for _, c := range []struct {
		a, b, number dec.Dec
		errno        api.Errno
	}{
		{2000000, 3000000, 6000000, api.OK},
		{-1500000, 1500000, -2250000, api.OK},
		{-2000000, -3000000, 6000000, api.OK},
		{0, dec.Least, 0, api.OK},
		{1, 499999, 0, api.OK},
		{-1, 499999, 0, api.OK},
		{1, 500000, 1, api.OK}, // halfway
		{-1, 500000, -1, api.OK},
		{-1, -500000, 1, api.OK},
		{3, 500000, 2, api.OK}, // halfway, and not to the even one
		{5, 500000, 3, api.OK},
		{-5, 500000, -3, api.OK},
		{dec.Greatest, 1000000, dec.Greatest, api.OK},
		{dec.Least, 1000000, dec.Least, api.OK},
		{dec.Greatest, -1000000, dec.Least + 1, api.OK},
		{dec.Least, -1000000, 0, api.ErrNum},
		{dec.Least, dec.Least, 0, api.ErrNum},
		{dec.Greatest, dec.Greatest, 0, api.ErrNum},
		{dec.Greatest, dec.Least, 0, api.ErrNum},
		{dec.Greatest, 1000001, 0, api.ErrNum},
		{dec.Least, 1000001, 0, api.ErrNum},
	} {
		got, e := dec.Mul(c.a, c.b)
		want(t, "Mul", got, e, c.number, c.errno)
		got, e = dec.Mul(c.b, c.a)
		want(t, "Mul, turned round,", got, e, c.number, c.errno)
	}
}

// P1.2: the range is checked after rounding, so what is rounded out of it is not in it.
func TestMulAtTheRange(t *testing.T) {
	for _, c := range []struct {
		a, b, number dec.Dec
		errno        api.Errno
	}{
		{85899345920000, 107374182400, 0, api.ErrNum}, // 2^63
		{-85899345920000, 107374182400, dec.Least, api.OK},
		{1229782938247303441, 7500000, 0, api.ErrNum}, // 2^63 - 1/2, halfway
		{-1229782938247303441, 7500000, dec.Least, api.OK},
		{1537228672809129302, 6000000, 0, api.ErrNum}, // 2^63 + 4
		{-1537228672809129302, 6000000, 0, api.ErrNum},
		{9223362813491962316, 2000002, 0, api.ErrNum}, // less than 1/2 under 2^64
		{-9223362813491962316, 2000002, 0, api.ErrNum},
	} {
		got, e := dec.Mul(c.a, c.b)
		want(t, "Mul", got, e, c.number, c.errno)
	}
}

// P1.2: the same for Div.
func TestDivAtTheRange(t *testing.T) {
	for _, c := range []struct {
		a, b, number dec.Dec
		errno        api.Errno
	}{
		{3689348814741910323, 400000, 0, api.ErrNum}, // 2^63 - 1/2, halfway
		{-3689348814741910323, 400000, dec.Least, api.OK},
		{41099345796224881, 2228, 0, api.ErrNum}, // less than 1/2 under 2^64
		{41099345796224881, -2228, 0, api.ErrNum},
	} {
		got, e := dec.Div(c.a, c.b)
		want(t, "Div", got, e, c.number, c.errno)
	}
}

// P1.2
func TestDiv(t *testing.T) {
	for _, c := range []struct {
		a, b, number dec.Dec
		errno        api.Errno
	}{
		{1000000, 3000000, 333333, api.OK},
		{2000000, 3000000, 666667, api.OK},
		{-2000000, 3000000, -666667, api.OK},
		{2000000, -3000000, -666667, api.OK},
		{-2000000, -3000000, 666667, api.OK},
		{0, dec.Least, 0, api.OK},
		{1, 2000000, 1, api.OK}, // halfway
		{-1, 2000000, -1, api.OK},
		{1, -2000000, -1, api.OK},
		{3, 2000000, 2, api.OK},
		{5, 2000000, 3, api.OK},
		{1, 2000001, 0, api.OK},
		{-1, 2000001, 0, api.OK},
		{dec.Least, 1000000, dec.Least, api.OK},
		{dec.Greatest, -1000000, dec.Least + 1, api.OK},
		{dec.Greatest, dec.Least, -1000000, api.OK},
		{dec.Least, dec.Greatest, -1000000, api.OK},
		{dec.Least, dec.Least, 1000000, api.OK},
		{dec.Least, -1000000, 0, api.ErrNum},
		{dec.Greatest, 999999, 0, api.ErrNum},
		{dec.Least, 999999, 0, api.ErrNum},
		{dec.Greatest, 1, 0, api.ErrNum},
		{dec.Least, -1, 0, api.ErrNum},
		{0, 0, 0, api.ErrDiv},
		{1, 0, 0, api.ErrDiv},
		{dec.Least, 0, 0, api.ErrDiv},
	} {
		got, e := dec.Div(c.a, c.b)
		want(t, "Div", got, e, c.number, c.errno)
	}
}

// P1.3
func TestRound(t *testing.T) {
	for _, c := range []struct {
		a      dec.Dec
		places int
		number dec.Dec
		errno  api.Errno
	}{
		{1234500, 2, 1230000, api.OK},
		{1235000, 2, 1240000, api.OK}, // halfway
		{1225000, 2, 1230000, api.OK},
		{-1235000, 2, -1240000, api.OK},
		{-2500000, 0, -3000000, api.OK},
		{499999, 0, 0, api.OK},
		{-499999, 0, 0, api.OK},
		{500000, 0, 1000000, api.OK},
		{1999999, 5, 2000000, api.OK},
		{123456, 1, 100000, api.OK},
		{123456, 3, 123000, api.OK},
		{123456, 4, 123500, api.OK},
		{123456, 6, 123456, api.OK},
		{123456, 7, 123456, api.OK},
		{123456, math.MaxInt, 123456, api.OK},
		{1500000, -1, 2000000, api.OK},
		{14000000, -1, 14000000, api.OK},
		{14500000, math.MinInt, 15000000, api.OK},
		{dec.Greatest, 6, dec.Greatest, api.OK},
		{dec.Least, 6, dec.Least, api.OK},
		{dec.Greatest, 5, 0, api.ErrNum},
		{dec.Greatest, 4, dec.Greatest - 7, api.OK},
		{dec.Greatest, 3, 0, api.ErrNum},
		{dec.Greatest, 0, 0, api.ErrNum},
		{dec.Least, 4, dec.Least + 8, api.OK},
		{dec.Least, 1, 0, api.ErrNum},
		{dec.Least, 0, 0, api.ErrNum},
		{greatestWhole + 499999, 0, greatestWhole, api.OK},
		{greatestWhole + 500000, 0, 0, api.ErrNum},
		{leastWhole - 499999, 0, leastWhole, api.OK},
		{leastWhole - 500000, 0, 0, api.ErrNum},
	} {
		got, e := dec.Round(c.a, c.places)
		want(t, "Round", got, e, c.number, c.errno)
	}
}

// P1.3
func TestFloor(t *testing.T) {
	for _, c := range []struct {
		a, number dec.Dec
		errno     api.Errno
	}{
		{0, 0, api.OK},
		{1, 0, api.OK},
		{999999, 0, api.OK},
		{1000000, 1000000, api.OK},
		{-1, -1000000, api.OK},
		{-1000000, -1000000, api.OK},
		{-1500000, -2000000, api.OK},
		{dec.Greatest, greatestWhole, api.OK},
		{leastWhole, leastWhole, api.OK},
		{leastWhole - 1, 0, api.ErrNum},
		{dec.Least, 0, api.ErrNum},
	} {
		got, e := dec.Floor(c.a)
		want(t, "Floor", got, e, c.number, c.errno)
	}
}

// P1.3
func TestMod(t *testing.T) {
	for _, c := range []struct {
		a, b, number dec.Dec
		errno        api.Errno
	}{
		{7000000, 3000000, 1000000, api.OK},
		{-7000000, 3000000, 2000000, api.OK},
		{7000000, -3000000, -2000000, api.OK},
		{-7000000, -3000000, -1000000, api.OK},
		{6000000, -3000000, 0, api.OK},
		{-6000000, 3000000, 0, api.OK},
		{5500000, 2000000, 1500000, api.OK},
		{1, 300000, 1, api.OK},
		{0, -1, 0, api.OK},
		{dec.Least, -1, 0, api.OK},
		{dec.Least, dec.Greatest, dec.Greatest - 1, api.OK},
		{dec.Greatest, dec.Least, -1, api.OK},
		{1, dec.Least, dec.Least + 1, api.OK},
		{-1, dec.Greatest, dec.Greatest - 1, api.OK},
		{0, 0, 0, api.ErrDiv},
		{-7000000, 0, 0, api.ErrDiv},
	} {
		got, e := dec.Mod(c.a, c.b)
		want(t, "Mod", got, e, c.number, c.errno)
	}
}
