package stamp_test

import (
	"math"
	"slices"
	"testing"

	"quadrille/api"
	"quadrille/stamp"
)

// ascending returns stamps in their order, valid ones and others.
func ascending() []api.ID {
	var l []api.ID
	for _, time := range []uint64{0, 1, 2, 9, 10, 255, 256, 1<<32 - 1, 1 << 32, 1<<40 - 1, 1 << 40, 1<<40 + 1, 1<<63 - 1, 1 << 63, math.MaxUint64 - 1, math.MaxUint64} {
		for _, replica := range []int{math.MinInt, -65, -1, 0, 1, 2, 10, 63, 64, 65, 1 << 32, math.MaxInt} {
			l = append(l, api.ID{Time: time, Replica: replica})
		}
	}
	return l
}

// P5.1, P5.4: the time decides, and the replica only between equal times.
func TestCompareAndLess(t *testing.T) {
	l := ascending()
	for i, a := range l {
		for j, b := range l {
			wanted := 0
			if i < j {
				wanted = -1
			} else if i > j {
				wanted = 1
			}
			if got := stamp.Compare(a, b); got != wanted {
				t.Errorf("Compare(%v, %v) = %d; want %d", a, b, got, wanted)
			}
			if got := stamp.Less(a, b); got != (i < j) {
				t.Errorf("Less(%v, %v) = %t", a, b, got)
			}
			if a != b && stamp.Less(a, b) == stamp.Less(b, a) {
				t.Errorf("not exactly one of %v and %v is less than the other", a, b)
			}
		}
	}
}

// P5.1: the limits are allowed themselves.
func TestRight(t *testing.T) {
	for _, c := range []struct {
		time    uint64
		replica int
		right   bool
	}{
		{0, 0, false}, // the zero ID
		{0, 1, true}, {1, 0, true}, {1, 1, true}, {12, 3, true}, {0, 64, true},
		{1 << 40, 0, true}, {1 << 40, 1, true}, {1 << 40, 64, true}, {1<<40 - 1, 64, true},
		{1<<40 + 1, 0, false}, {1<<40 + 1, 1, false}, {1 << 41, 1, false}, {1 << 63, 1, false}, {math.MaxUint64, 64, false},
		{1, 63, true}, {1, 64, true}, {1, 65, false}, {0, 65, false}, {1 << 40, 65, false}, {1, 1 << 32, false}, {1, math.MaxInt, false},
		{1, -1, false}, {0, -1, false}, {1 << 40, -1, false}, {1, -64, false}, {1, math.MinInt, false},
		{1<<40 + 1, 65, false}, {1<<40 + 1, -1, false},
	} {
		if got := stamp.Right(api.ID{Time: c.time, Replica: c.replica}); got != c.right {
			t.Errorf("Right of time %d, replica %d = %t; want %t", c.time, c.replica, got, c.right)
		}
	}
}

// P5.1: also stamps that are not valid are sorted.
func TestSort(t *testing.T) {
	zero, a, b, c := api.ID{}, api.ID{Time: 5, Replica: 2}, api.ID{Time: 5, Replica: 3}, api.ID{Time: 6, Replica: 1}
	low, high := api.ID{Time: 5, Replica: -1}, api.ID{Time: math.MaxUint64, Replica: 1}
	for _, v := range []struct{ l, sorted []api.ID }{
		{nil, nil},
		{[]api.ID{}, nil},
		{[]api.ID{a}, []api.ID{a}},
		{[]api.ID{zero}, []api.ID{zero}},
		{[]api.ID{zero, zero}, []api.ID{zero}},
		{[]api.ID{a, a, a}, []api.ID{a}},
		{[]api.ID{a, b, c}, []api.ID{a, b, c}},
		{[]api.ID{c, b, a}, []api.ID{a, b, c}},
		{[]api.ID{c, a, b, a}, []api.ID{a, b, c}},
		{[]api.ID{b, a, c, b, a, c, b}, []api.ID{a, b, c}},
		{[]api.ID{a, c, a}, []api.ID{a, c}},
		{[]api.ID{high, c, low, zero, a, high, low}, []api.ID{zero, low, a, c, high}},
	} {
		if got := stamp.Sort(v.l...); !slices.Equal(got, v.sorted) {
			t.Errorf("Sort(%v) = %v; want %v", v.l, got, v.sorted)
		}
	}
	if got := stamp.Sort(); len(got) != 0 {
		t.Errorf("Sort() = %v", got)
	}
	if got := stamp.Sort(b, a); !slices.Equal(got, []api.ID{a, b}) {
		t.Errorf("Sort of two stamps = %v", got)
	}
}

// P5.1: many stamps, each a few times, from any order.
func TestSortMany(t *testing.T) {
	sorted := ascending()
	n := len(sorted)
	// Steps of these lengths meet every stamp, as none of them shares a divisor with n, which is 192.
	for _, step := range []int{1, 5, 7, 47, 95, 119, n - 1} {
		var l []api.ID
		for i := range 3 * n {
			l = append(l, sorted[i*step%n])
		}
		if got := stamp.Sort(l...); !slices.Equal(got, sorted) {
			t.Errorf("in steps of %d: Sort = %v; want %v", step, got, sorted)
		}
	}
}

// Memory: the argument and what stands behind it stay as they are, and the answer is new.
func TestSortMemory(t *testing.T) {
	for _, n := range []int{0, 1, 2, 3, 40} {
		whole := make([]api.ID, n+3)
		for i := range whole {
			whole[i] = api.ID{Time: uint64(len(whole)-i) / 2, Replica: 1}
		}
		before := slices.Clone(whole)
		got := stamp.Sort(whole[:n]...)
		after := slices.Clone(got)
		for i := range got {
			got[i] = api.ID{Time: 99, Replica: 99}
		}
		_ = append(got, api.ID{Time: 98, Replica: 98})
		if !slices.Equal(whole, before) {
			t.Errorf("Sort of %d stamps changes or shares its argument: %v; want %v", n, whole, before)
		}
		if again := stamp.Sort(whole[:n]...); !slices.Equal(again, after) {
			t.Errorf("Sort of %d stamps = %v, and then %v", n, after, again)
		}
	}
}

// P5.1: stamps that are sorted already without duplicates are not handed back themselves.
func TestSortOfSorted(t *testing.T) {
	l := []api.ID{{Time: 1, Replica: 1}, {Time: 2, Replica: 1}}
	got := stamp.Sort(l...)
	l[0].Time = 7
	if got[0].Time != 1 {
		t.Error("Sort returns its argument")
	}
}
