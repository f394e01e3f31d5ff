package clock_test

import (
	"math"
	"slices"
	"testing"

	"quadrille/clock"
)

// top is the greatest number.
const top = math.MaxUint64

// full returns a clock with all 64 numbers, 1 to 64.
func full() clock.Clock {
	c := make(clock.Clock, 64)
	for i := range c {
		c[i] = uint64(i + 1)
	}
	return c
}

// last returns a clock with a number of replica 64 only.
func last(n uint64) clock.Clock {
	c := make(clock.Clock, 64)
	c[63] = n
	return c
}

// P6.1: a replica that the clock does not mention, or that cannot be, has the number 0.
func TestGet(t *testing.T) {
	for _, v := range []struct {
		c       clock.Clock
		replica int
		n       uint64
	}{
		{nil, 1, 0}, {nil, 0, 0}, {nil, -1, 0}, {nil, 64, 0},
		{clock.Clock{5, 0, 7}, 1, 5}, {clock.Clock{5, 0, 7}, 2, 0}, {clock.Clock{5, 0, 7}, 3, 7},
		{clock.Clock{5, 0, 7}, 4, 0}, {clock.Clock{5, 0, 7}, 5, 0}, {clock.Clock{5, 0, 7}, 64, 0}, {clock.Clock{5, 0, 7}, 65, 0},
		{clock.Clock{5, 0, 7}, 0, 0}, {clock.Clock{5, 0, 7}, -1, 0}, {clock.Clock{5, 0, 7}, -3, 0},
		{clock.Clock{5, 0, 7}, math.MinInt, 0}, {clock.Clock{5, 0, 7}, math.MaxInt, 0},
		{clock.Clock{top, 3, 0}, 1, top}, {clock.Clock{top, 3, 0}, 2, 3}, {clock.Clock{top, 3, 0}, 3, 0},
		{full(), 1, 1}, {full(), 63, 63}, {full(), 64, 64}, {full(), 65, 0}, {full(), 0, 0}, {full(), -64, 0},
	} {
		if got := v.c.Get(v.replica); got != v.n {
			t.Errorf("%v.Get(%d) = %d; want %d", v.c, v.replica, got, v.n)
		}
	}
}

// P6.1: what is returned has no zeros at its end, whatever was there before.
func TestWith(t *testing.T) {
	for _, v := range []struct {
		c       clock.Clock
		replica int
		n       uint64
		wanted  clock.Clock
	}{
		{nil, 1, 5, clock.Clock{5}}, {nil, 3, 5, clock.Clock{0, 0, 5}}, {nil, 1, 0, nil}, {nil, 64, 0, nil}, {nil, 64, 9, last(9)},
		{clock.Clock{1, 2, 3}, 1, 9, clock.Clock{9, 2, 3}}, {clock.Clock{1, 2, 3}, 2, 9, clock.Clock{1, 9, 3}}, {clock.Clock{1, 2, 3}, 3, 9, clock.Clock{1, 2, 9}},
		{clock.Clock{1, 2, 3}, 4, 9, clock.Clock{1, 2, 3, 9}}, {clock.Clock{1, 2, 3}, 6, 9, clock.Clock{1, 2, 3, 0, 0, 9}},
		{clock.Clock{1, 2, 3}, 2, 1, clock.Clock{1, 1, 3}}, {clock.Clock{1, 2, 3}, 2, top, clock.Clock{1, top, 3}},
		{clock.Clock{1, 2, 3}, 1, 0, clock.Clock{0, 2, 3}}, {clock.Clock{1, 2, 3}, 2, 0, clock.Clock{1, 0, 3}},
		{clock.Clock{1, 2, 3}, 3, 0, clock.Clock{1, 2}}, {clock.Clock{1, 0, 3}, 3, 0, clock.Clock{1}}, {clock.Clock{0, 0, 3}, 3, 0, nil},
		{clock.Clock{1, 2, 3}, 4, 0, clock.Clock{1, 2, 3}}, {clock.Clock{1, 2, 3}, 64, 0, clock.Clock{1, 2, 3}},
		{clock.Clock{1, 2, 0, 0}, 1, 7, clock.Clock{7, 2}}, {clock.Clock{1, 2, 0, 0}, 3, 7, clock.Clock{1, 2, 7}}, {clock.Clock{1, 2, 0, 0}, 6, 0, clock.Clock{1, 2}},
		// Replicas that there are not.
		{clock.Clock{1, 2, 3}, 0, 9, clock.Clock{1, 2, 3}}, {clock.Clock{1, 2, 3}, -1, 9, clock.Clock{1, 2, 3}}, {clock.Clock{1, 2, 3}, 65, 9, clock.Clock{1, 2, 3}},
		{clock.Clock{1, 2, 3}, math.MaxInt, 9, clock.Clock{1, 2, 3}}, {clock.Clock{1, 2, 3}, math.MinInt, 9, clock.Clock{1, 2, 3}},
		{clock.Clock{1, 0, 3, 0, 0}, 0, 9, clock.Clock{1, 0, 3}}, {clock.Clock{1, 0, 3, 0, 0}, 65, 9, clock.Clock{1, 0, 3}}, {clock.Clock{1, 0}, -1, 0, clock.Clock{1}},
		{clock.Clock{0, 0}, 0, 9, nil}, {clock.Clock{0, 0}, 65, 9, nil}, {nil, 0, 9, nil}, {nil, 65, 9, nil},
		{full(), 65, 9, full()}, {full(), 0, 9, full()}, {full(), 64, 0, full()[:63]}, {full()[:63], 64, 64, full()}, {last(5), 64, 0, nil},
	} {
		if got := v.c.With(v.replica, v.n); !slices.Equal(got, v.wanted) {
			t.Errorf("%v.With(%d, %d) = %v; want %v", v.c, v.replica, v.n, got, v.wanted)
		}
	}
}

// P6.1: the sum begins anew behind 2^64 - 1.
func TestTotal(t *testing.T) {
	for _, v := range []struct {
		c clock.Clock
		n uint64
	}{
		{nil, 0}, {clock.Clock{}, 0}, {clock.Clock{0, 0}, 0}, {clock.Clock{7}, 7}, {clock.Clock{1, 2, 3}, 6}, {clock.Clock{0, 5, 0, 6, 0}, 11},
		{full(), 2080}, {last(8), 8},
		{clock.Clock{top}, top}, {clock.Clock{top, 1}, 0}, {clock.Clock{top, 0, 6}, 5}, {clock.Clock{top, top}, top - 1}, {clock.Clock{1 << 63, 1 << 63, 4}, 4},
		{clock.Clock{1 << 32, 1 << 32}, 1 << 33},
	} {
		if got := v.c.Total(); got != v.n {
			t.Errorf("%v.Total() = %d; want %d", v.c, got, v.n)
		}
	}
}

// P6.2: the numbers of one clock alone are there, too, and zeros at the end are not.
func TestJoin(t *testing.T) {
	for _, v := range []struct{ a, b, wanted clock.Clock }{
		{clock.Clock{1, 2}, clock.Clock{0, 3, 1}, clock.Clock{1, 3, 1}},
		{clock.Clock{3, 0, 2}, clock.Clock{1, 4}, clock.Clock{3, 4, 2}},
		{nil, nil, nil}, {clock.Clock{}, nil, nil}, {clock.Clock{0, 0}, clock.Clock{0}, nil},
		{clock.Clock{1, 2}, nil, clock.Clock{1, 2}}, {clock.Clock{1, 2, 0}, nil, clock.Clock{1, 2}}, {clock.Clock{1, 2, 0}, clock.Clock{0, 0, 0, 0}, clock.Clock{1, 2}},
		{clock.Clock{5}, clock.Clock{5}, clock.Clock{5}}, {clock.Clock{5}, clock.Clock{6}, clock.Clock{6}},
		{clock.Clock{0, 0, 7}, clock.Clock{top}, clock.Clock{top, 0, 7}}, {clock.Clock{top}, clock.Clock{top - 1}, clock.Clock{top}},
		{clock.Clock{1 << 63}, clock.Clock{1<<63 - 1}, clock.Clock{1 << 63}}, {clock.Clock{1 << 32}, clock.Clock{1}, clock.Clock{1 << 32}},
		{full(), nil, full()}, {full(), last(65), append(full()[:63], 65)}, {full(), last(63), full()}, {last(1), last(2), last(2)},
	} {
		for _, got := range []clock.Clock{clock.Join(v.a, v.b), clock.Join(v.b, v.a)} {
			if !slices.Equal(got, v.wanted) {
				t.Errorf("Join of %v and %v = %v; want %v", v.a, v.b, got, v.wanted)
			}
		}
	}
}

// P6.2: of one clock Meet returns this one, of none the empty clock.
func TestMeet(t *testing.T) {
	for _, v := range []struct {
		l      []clock.Clock
		wanted clock.Clock
	}{
		{nil, nil}, {[]clock.Clock{}, nil}, {[]clock.Clock{nil}, nil}, {[]clock.Clock{{0, 0}}, nil},
		{[]clock.Clock{{1, 2}}, clock.Clock{1, 2}}, {[]clock.Clock{{0, 2, 0}}, clock.Clock{0, 2}}, {[]clock.Clock{{top}}, clock.Clock{top}}, {[]clock.Clock{full()}, full()},
		{[]clock.Clock{{3, 0, 2}, {1, 4}}, clock.Clock{1}}, {[]clock.Clock{{1, 2}, {0, 3, 1}}, clock.Clock{0, 2}},
		{[]clock.Clock{{1, 2}, nil}, nil}, {[]clock.Clock{{1, 2}, {0, 0, 9}}, nil}, {[]clock.Clock{{1, 2, 0}, {1, 2, 5}}, clock.Clock{1, 2}},
		{[]clock.Clock{{5, 5, 5}, {6, 4, 7}, {9, 9, 1}}, clock.Clock{5, 4, 1}}, {[]clock.Clock{{5, 5, 5}, {6, 4, 7}, {9, 9, 1}, {0, 8, 8}}, clock.Clock{0, 4, 1}},
		{[]clock.Clock{{5, 5, 5}, {6, 4}, {9, 9, 1}}, clock.Clock{5, 4}}, {[]clock.Clock{{5, 5, 5}, {6, 4, 7}, nil}, nil}, {[]clock.Clock{nil, {6, 4, 7}, {1}}, nil},
		{[]clock.Clock{{top, 1}, {top, top}}, clock.Clock{top, 1}}, {[]clock.Clock{{1 << 63}, {1<<63 - 1}}, clock.Clock{1<<63 - 1}},
		{[]clock.Clock{full(), full()}, full()}, {[]clock.Clock{full(), last(7)}, last(7)}, {[]clock.Clock{full(), full()[:63]}, full()[:63]},
	} {
		backwards := slices.Clone(v.l)
		slices.Reverse(backwards)
		for _, l := range [][]clock.Clock{v.l, backwards} {
			if got := clock.Meet(l...); !slices.Equal(got, v.wanted) {
				t.Errorf("Meet of %v = %v; want %v", l, got, v.wanted)
			}
		}
	}
	if got := clock.Meet(clock.Clock{2, 1}, clock.Clock{1, 2}); !slices.Equal(got, clock.Clock{1, 1}) {
		t.Errorf("Meet of two clocks = %v", got)
	}
}

// P6.2: many clocks, of which each has one number that is less than those of the others.
func TestMeetMany(t *testing.T) {
	var l []clock.Clock
	for i := range 64 {
		c := full().With(i+1, 0)
		l = append(l, c)
		wanted := full()
		clear(wanted[:i+1])
		if i == 63 {
			wanted = nil
		}
		if got := clock.Meet(l...); !slices.Equal(got, wanted) {
			t.Errorf("Meet of %d clocks = %v; want %v", i+1, got, wanted)
		}
	}
}

// orders fails the test unless Within reports this of a and b, and the reverse of b and a, and Same and Apart what follows from it.
func orders(t *testing.T, a, b clock.Clock, ab, ba bool) {
	t.Helper()
	if clock.Within(a, b) != ab || clock.Within(b, a) != ba {
		t.Errorf("%v and %v: Within is %t, %t; want %t, %t", a, b, clock.Within(a, b), clock.Within(b, a), ab, ba)
	}
	if clock.Same(a, b) != (ab && ba) || clock.Same(b, a) != (ab && ba) {
		t.Errorf("%v and %v: Same is %t, %t", a, b, clock.Same(a, b), clock.Same(b, a))
	}
	if clock.Apart(a, b) != (!ab && !ba) || clock.Apart(b, a) != (!ab && !ba) {
		t.Errorf("%v and %v: Apart is %t, %t", a, b, clock.Apart(a, b), clock.Apart(b, a))
	}
}

// P6.2: a number that is not there is 0, so zeros at the end make no difference.
func TestWithinSameApart(t *testing.T) {
	for _, v := range []struct {
		a, b   clock.Clock
		ab, ba bool
	}{
		{clock.Clock{1, 2}, clock.Clock{0, 3, 1}, false, false}, {clock.Clock{3, 0, 2}, clock.Clock{1, 4}, false, false},
		{nil, nil, true, true}, {nil, clock.Clock{}, true, true}, {nil, clock.Clock{0, 0}, true, true}, {clock.Clock{1, 0}, clock.Clock{1}, true, true},
		{clock.Clock{0}, clock.Clock{0, 0, 0}, true, true}, {clock.Clock{1, 2, 3}, clock.Clock{1, 2, 3}, true, true}, {full(), full(), true, true},
		{nil, clock.Clock{1}, true, false}, {nil, clock.Clock{0, 1}, true, false}, {clock.Clock{0, 0, 0}, clock.Clock{0, 1}, true, false},
		{clock.Clock{1}, clock.Clock{2}, true, false}, {clock.Clock{1, 2}, clock.Clock{1, 3}, true, false}, {clock.Clock{1, 2}, clock.Clock{1, 2, 1}, true, false},
		{clock.Clock{1, 0, 2, 0}, clock.Clock{3, 0, 2}, true, false}, {clock.Clock{0, 2}, clock.Clock{1, 2}, true, false},
		{clock.Clock{1}, clock.Clock{0, 1}, false, false}, {clock.Clock{1, 0, 0}, clock.Clock{0, 0, 1}, false, false}, {clock.Clock{2, 1}, clock.Clock{1, 2}, false, false},
		{clock.Clock{1, 2, 3}, clock.Clock{1, 3, 2}, false, false}, {clock.Clock{5, 5, 5, 1}, clock.Clock{6, 6, 6}, false, false},
		{clock.Clock{top - 1}, clock.Clock{top}, true, false}, {clock.Clock{1}, clock.Clock{top}, true, false}, {clock.Clock{1<<63 - 1}, clock.Clock{1 << 63}, true, false},
		{clock.Clock{1}, clock.Clock{1 << 32}, true, false}, {clock.Clock{top}, clock.Clock{0, top}, false, false},
		{full()[:63], full(), true, false}, {last(64), full(), true, false}, {last(65), full(), false, false},
	} {
		orders(t, v.a, v.b, v.ab, v.ba)
	}
}
