package stamp_test

import (
	"bytes"
	"math"
	"testing"

	"quadrille/api"
	"quadrille/stamp"
	"quadrille/wire"
)

// put returns what Put writes.
func put(a api.ID) []byte {
	var w wire.Writer
	stamp.Put(&w, a)
	return w.Done()
}

// P5.2: first the time, then the replica; a stamp need not be valid.
func TestPut(t *testing.T) {
	for _, c := range []struct {
		time    uint64
		replica int
		encoded string
	}{
		{0, 0, "\x00\x00"}, {1, 0, "\x01\x00"}, {0, 1, "\x00\x01"}, {6, 1, "\x06\x01"}, {1, 6, "\x01\x06"},
		{300, 64, "\xac\x02\x40"}, {300, 65, "\xac\x02\x41"}, {1, 300, "\x01\xac\x02"},
		{1 << 40, 64, "\x80\x80\x80\x80\x80\x20\x40"},
		{math.MaxUint64, math.MaxInt, "\xff\xff\xff\xff\xff\xff\xff\xff\xff\x01" + "\xff\xff\xff\xff\xff\xff\xff\xff\x7f"},
		{5, -1, "\x05\x00"}, {0, -1, "\x00\x00"}, {5, -64, "\x05\x00"}, {math.MaxUint64, math.MinInt, "\xff\xff\xff\xff\xff\xff\xff\xff\xff\x01\x00"},
	} {
		if got := string(put(api.ID{Time: c.time, Replica: c.replica})); got != c.encoded {
			t.Errorf("Put of time %d, replica %d writes %x; want %x", c.time, c.replica, got, c.encoded)
		}
	}
}

// P5.2: a stamp stands behind what was written before.
func TestPutAppends(t *testing.T) {
	var w wire.Writer
	w.Text("ab")
	stamp.Put(&w, api.ID{Time: 12, Replica: 3})
	stamp.Put(&w, api.ID{Time: 7, Replica: -2})
	w.Num(9)
	if got := string(w.Done()); got != "\x02ab\x0c\x03\x07\x00\x09" {
		t.Errorf("%x is written", got)
	}
}

// P5.2: what was put is taken, whether or not it is valid, and what stands behind it is left.
func TestTakeInvertsPut(t *testing.T) {
	for _, a := range ascending() {
		if a.Replica > api.MaxReplicas {
			continue
		}
		wanted := a
		wanted.Replica = max(a.Replica, 0)
		for _, behind := range []string{"", "\x00", "\x80", "tail"} {
			r := wire.Read(append(put(a), behind...))
			if got := stamp.Take(r); got != wanted {
				t.Errorf("Take of %v = %v; want %v", a, got, wanted)
			}
			if !r.Fine() || r.Left() != len(behind) {
				t.Errorf("after Take of %v: Fine %t, Left %d; want true, %d", a, r.Fine(), r.Left(), len(behind))
			}
		}
	}
}

// P5.2
func TestTakeInTurn(t *testing.T) {
	a, b := api.ID{Time: 300, Replica: 2}, api.ID{Time: 1, Replica: 64}
	r := wire.Read(bytes.Join([][]byte{{5}, put(a), put(b), {6}}, nil))
	if r.Num() != 5 || stamp.Take(r) != a || stamp.Take(r) != b || r.Num() != 6 || !r.End() {
		t.Error("other values are read")
	}
}

// P5.2: the Reader fails where there is no such stamp; the time is taken where only the replica is not there.
func TestTakeOfNothing(t *testing.T) {
	for _, c := range []struct {
		encoded string
		time    uint64
	}{
		{"", 0}, {"\x80", 0}, {"\x80\x00\x01", 0}, {"\x81\x00\x01", 0},
		{"\xff\xff\xff\xff\xff\xff\xff\xff\xff\x02\x01", 0},
		{"\x05", 5}, {"\x05\x81", 5}, {"\x05\x80\x00", 5}, {"\x05\x81\x00", 5}, {"\x00", 0},
		// Replicas beyond the limit.
		{"\x05\x41", 5}, {"\x05\x41\x01", 5}, {"\x05\x7f", 5}, {"\x05\xac\x02", 5}, {"\x00\x41", 0},
		{"\x05\x81\x80\x80\x80\x10", 5}, {"\x05\xff\xff\xff\xff\xff\xff\xff\xff\x7f", 5},
		{"\x05\xff\xff\xff\xff\xff\xff\xff\xff\xff\x01", 5}, {"\x05\x80\x80\x80\x80\x80\x80\x80\x80\x80\x01", 5},
		{"\x05\xff\xff\xff\xff\xff\xff\xff\xff\xff\x02", 5},
	} {
		r := wire.Read([]byte(c.encoded))
		if got := stamp.Take(r); got != (api.ID{Time: c.time}) {
			t.Errorf("Take of %x = %v", c.encoded, got)
		}
		for range 2 {
			if r.Fine() || r.End() || r.Left() != 0 {
				t.Errorf("Take of %x does not fail", c.encoded)
			}
			if got := stamp.Take(r); got != (api.ID{}) {
				t.Errorf("Take of the failed Reader of %x = %v", c.encoded, got)
			}
		}
	}
}

// A nil Writer takes nothing, and a nil Reader gives nothing.
func TestNoWriterAndNoReader(t *testing.T) {
	var none *wire.Writer
	stamp.Put(none, api.ID{Time: 1, Replica: 1})
	if got := none.Done(); len(got) != 0 {
		t.Errorf("the nil Writer contains %x", got)
	}
	if got := stamp.Take(nil); got != (api.ID{}) {
		t.Errorf("Take(nil) = %v", got)
	}
}
