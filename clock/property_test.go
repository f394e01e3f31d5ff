package clock_test

import (
	"slices"
	"testing"

	"quadrille/clock"
)

// all returns every clock of so many replicas whose numbers are at most most, with zeros at the end of some of them.
func all(replicas int, most uint64) []clock.Clock {
	l := []clock.Clock{nil}
	for range replicas {
		var longer []clock.Clock
		for _, c := range l {
			for n := range most + 1 {
				longer = append(longer, append(slices.Clone(c), n))
			}
		}
		l = longer
	}
	return l
}

// within reports, number by number, whether none of a is greater than that of b.
func within(a, b clock.Clock) bool {
	for i := range max(len(a), len(b)) {
		if a.Get(i+1) > b.Get(i+1) {
			return false
		}
	}
	return true
}

// trimmed fails the test if there is a zero at the end of a clock.
func trimmed(t *testing.T, c clock.Clock) {
	t.Helper()
	if len(c) > 0 && c[len(c)-1] == 0 {
		t.Errorf("%v ends with a zero", c)
	}
}

// P6.2: of all pairs of small clocks.
func TestOrdersOfAll(t *testing.T) {
	l := append(all(3, 2), all(2, 2)...)
	for _, a := range l {
		for _, b := range l {
			orders(t, a, b, within(a, b), within(b, a))
		}
	}
}

// P6.4: both clocks are Within their Join, and it is Within every clock in which they are.
func TestJoinIsLeast(t *testing.T) {
	l := all(3, 2)
	for _, a := range l {
		for _, b := range l {
			joined := clock.Join(a, b)
			trimmed(t, joined)
			if !clock.Within(a, joined) || !clock.Within(b, joined) {
				t.Fatalf("Join of %v and %v = %v", a, b, joined)
			}
			for _, c := range l {
				if within(a, c) && within(b, c) && !clock.Within(joined, c) {
					t.Fatalf("Join of %v and %v = %v, but %v is enough", a, b, joined, c)
				}
			}
		}
	}
}

// P6.4: Meet is Within all clocks, and every clock that is Within all of them is Within it.
func TestMeetIsGreatest(t *testing.T) {
	l := all(2, 2)
	for _, a := range l {
		for _, b := range l {
			for _, c := range l {
				met := clock.Meet(a, b, c)
				trimmed(t, met)
				if !clock.Within(met, a) || !clock.Within(met, b) || !clock.Within(met, c) {
					t.Fatalf("Meet of %v, %v and %v = %v", a, b, c, met)
				}
				for _, d := range l {
					if within(d, a) && within(d, b) && within(d, c) && !clock.Within(d, met) {
						t.Fatalf("Meet of %v, %v and %v = %v, but %v is greater", a, b, c, met, d)
					}
				}
			}
		}
	}
}

// P6.4: what follows for each other: the order of clocks, and how they are put together, makes no difference.
func TestJoinAndMeet(t *testing.T) {
	l := all(3, 1)
	for _, a := range l {
		for _, b := range l {
			if !clock.Same(clock.Join(a, clock.Meet(a, b)), a) || !clock.Same(clock.Meet(a, clock.Join(a, b)), a) {
				t.Errorf("%v and %v: Join and Meet do not belong together", a, b)
			}
			for _, c := range l {
				if !slices.Equal(clock.Join(clock.Join(a, b), c), clock.Join(a, clock.Join(b, c))) || !slices.Equal(clock.Meet(clock.Meet(a, b), c), clock.Meet(a, b, c)) {
					t.Errorf("%v, %v and %v: the order makes a difference", a, b, c)
				}
			}
		}
	}
}

// P6.1: With changes one number only.
func TestWithOfAll(t *testing.T) {
	for _, c := range all(3, 2) {
		for replica := -1; replica <= 66; replica++ {
			for n := range uint64(3) {
				got := c.With(replica, n)
				trimmed(t, got)
				for other := -1; other <= 66; other++ {
					wanted := c.Get(other)
					if other == replica && replica >= 1 && replica <= 64 {
						wanted = n
					}
					if got.Get(other) != wanted {
						t.Fatalf("%v.With(%d, %d) = %v", c, replica, n, got)
					}
				}
			}
		}
	}
}

// apart fails the test unless a clock and what stands behind it stay as they are, whatever is done to the answer that is made of it.
func apart(t *testing.T, what string, make func(c clock.Clock) clock.Clock) {
	t.Helper()
	for _, l := range []clock.Clock{{0, 0}, {1}, {1, 2}, {1, 2, 0}, {1, 0, 3, 0, 0}, full()} {
		whole := append(slices.Clone(l), 7, 8, 9)
		before := slices.Clone(whole)
		got := make(whole[:len(l)])
		for i := range got {
			got[i] = 99
		}
		_ = append(got, 98, 97)
		if !slices.Equal(whole, before) {
			t.Errorf("%s of %v changes or shares its argument, which is %v then", what, l, whole)
		}
	}
}

// Memory: no answer shares any with an argument.
func TestMemory(t *testing.T) {
	apart(t, "With", func(c clock.Clock) clock.Clock { return c.With(1, 5) })
	apart(t, "With of its number", func(c clock.Clock) clock.Clock { return c.With(1, c.Get(1)) })
	apart(t, "With of a new replica", func(c clock.Clock) clock.Clock { return c.With(len(c)+1, 5) })
	apart(t, "With of a zero behind the end", func(c clock.Clock) clock.Clock { return c.With(len(c)+1, 0) })
	apart(t, "With of no replica", func(c clock.Clock) clock.Clock { return c.With(0, 5) })
	apart(t, "With of a replica beyond the limit", func(c clock.Clock) clock.Clock { return c.With(65, 5) })
	apart(t, "Join with nothing", func(c clock.Clock) clock.Clock { return clock.Join(c, nil) })
	apart(t, "Join of nothing", func(c clock.Clock) clock.Clock { return clock.Join(nil, c) })
	apart(t, "Join with itself", func(c clock.Clock) clock.Clock { return clock.Join(c, c) })
	apart(t, "Join with more", func(c clock.Clock) clock.Clock { return clock.Join(c, clock.Clock{2, 1, 1, 1, 1, 1, 1}) })
	apart(t, "Meet", func(c clock.Clock) clock.Clock { return clock.Meet(c) })
	apart(t, "Meet with itself", func(c clock.Clock) clock.Clock { return clock.Meet(c, c) })
	apart(t, "Meet with more", func(c clock.Clock) clock.Clock { return clock.Meet(c, full(), full()) })
	apart(t, "Put", func(c clock.Clock) clock.Clock { put(c); return nil })
	apart(t, "the questions", func(c clock.Clock) clock.Clock {
		clock.Within(c, full())
		clock.Same(c, full())
		clock.Apart(full(), c)
		c.Total()
		return nil
	})
}

// Memory: the clocks of a list that is spread stay in it.
func TestMeetMemory(t *testing.T) {
	a, b := clock.Clock{1, 2}, clock.Clock{2, 1}
	l := []clock.Clock{a, b, {5}}
	got := clock.Meet(l[:2]...)
	clear(got)
	if !slices.Equal(l[0], clock.Clock{1, 2}) || !slices.Equal(l[1], clock.Clock{2, 1}) || !slices.Equal(l[2], clock.Clock{5}) {
		t.Errorf("Meet changes its arguments to %v", l)
	}
}
