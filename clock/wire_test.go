package clock_test

import (
	"bytes"
	"slices"
	"testing"

	"quadrille/clock"
	"quadrille/wire"
)

// put returns what Put writes.
func put(c clock.Clock) []byte {
	var w wire.Writer
	clock.Put(&w, c)
	return w.Done()
}

// P6.3: first how many numbers there are, without the zeros at the end.
func TestPut(t *testing.T) {
	for _, v := range []struct {
		c       clock.Clock
		encoded string
	}{
		{nil, "\x00"}, {clock.Clock{}, "\x00"}, {clock.Clock{0}, "\x00"}, {clock.Clock{0, 0, 0}, "\x00"}, {make(clock.Clock, 64), "\x00"},
		{clock.Clock{1}, "\x01\x01"}, {clock.Clock{1, 300}, "\x02\x01\xac\x02"}, {clock.Clock{1, 300, 0}, "\x02\x01\xac\x02"}, {clock.Clock{0, 0, 5}, "\x03\x00\x00\x05"},
		{clock.Clock{2, 0, 1, 0, 0}, "\x03\x02\x00\x01"}, {clock.Clock{top}, "\x01\xff\xff\xff\xff\xff\xff\xff\xff\xff\x01"}, {clock.Clock{1 << 32}, "\x01\x80\x80\x80\x80\x10"},
		{last(7), "\x40" + string(make([]byte, 63)) + "\x07"},
	} {
		if got := string(put(v.c)); got != v.encoded {
			t.Errorf("Put of %v writes %x; want %x", v.c, got, v.encoded)
		}
	}
}

// P6.3: a clock stands behind what was written before.
func TestPutAppends(t *testing.T) {
	var w wire.Writer
	w.Text("ab")
	clock.Put(&w, clock.Clock{12, 3, 0})
	clock.Put(&w, nil)
	w.Num(9)
	if got := string(w.Done()); got != "\x02ab\x02\x0c\x03\x00\x09" {
		t.Errorf("%x is written", got)
	}
}

// take fails the test unless Take reads a clock from bytes, and leaves so many of them.
func take(t *testing.T, b []byte, wanted clock.Clock, left int) {
	t.Helper()
	r := wire.Read(b)
	if c, ok := clock.Take(r); !ok || !slices.Equal(c, wanted) {
		t.Errorf("Take of %x = %v, %t; want %v, true", b, c, ok, wanted)
	}
	if !r.Fine() || r.Left() != left {
		t.Errorf("after Take of %x: Fine %t, Left %d; want true, %d", b, r.Fine(), r.Left(), left)
	}
}

// noClock fails the test unless Take rejects bytes.
func noClock(t *testing.T, b []byte) {
	t.Helper()
	if c, ok := clock.Take(wire.Read(b)); len(c) != 0 || ok {
		t.Errorf("Take of %x = %v, %t; want nothing, false", b, c, ok)
	}
}

// P6.3: what was put is taken, without the zeros at its end, and what stands behind it is left.
func TestTakeInvertsPut(t *testing.T) {
	for _, v := range []struct{ c, wanted clock.Clock }{
		{nil, nil}, {clock.Clock{0, 0}, nil}, {clock.Clock{1}, clock.Clock{1}}, {clock.Clock{1, 300, 0}, clock.Clock{1, 300}}, {clock.Clock{0, 0, 5, 0}, clock.Clock{0, 0, 5}},
		{clock.Clock{top, 0, top}, clock.Clock{top, 0, top}}, {full(), full()}, {full()[:63], full()[:63]}, {last(1), last(1)}, {last(0), nil},
	} {
		for _, behind := range []string{"", "\x00", "\x80", "tail"} {
			take(t, append(put(v.c), behind...), v.wanted, len(behind))
		}
	}
}

// P6.3
func TestTakeInTurn(t *testing.T) {
	a, b := clock.Clock{300, 2}, clock.Clock{0, 0, 1}
	r := wire.Read(bytes.Join([][]byte{{5}, put(a), put(nil), put(b), {6}}, nil))
	before := r.Num()
	first, okFirst := clock.Take(r)
	second, okSecond := clock.Take(r)
	third, okThird := clock.Take(r)
	if before != 5 || !slices.Equal(first, a) || len(second) != 0 || !slices.Equal(third, b) || r.Num() != 6 || !r.End() {
		t.Errorf("%v, %v and %v are read", first, second, third)
	}
	if !okFirst || !okSecond || !okThird {
		t.Error("a clock is not read")
	}
}

// P6.3: clocks with a zero at their end, with more than 64 numbers, and such as are not there whole.
func TestTakeRejects(t *testing.T) {
	for _, encoded := range []string{
		"", "\x80", "\x80\x00", "\x81\x00\x01",
		"\x01\x00", "\x02\x01\x00", "\x02\x00\x00", "\x03\x01\x02\x00", "\x01\x00\x05", "\x40" + string(full64(0)),
		"\x01", "\x02\x01", "\x02\x01\x80", "\x02\x80\x00\x01", "\x02\x81\x00\x01", "\x01\xff\xff\xff\xff\xff\xff\xff\xff\xff\x02", "\x40" + string(full64(1)[:63]),
		"\x41" + string(full64(1)) + "\x01", "\x41" + string(full64(1)) + "\x00", "\x41", "\x7f" + string(bytes.Repeat([]byte{1}, 127)), "\xac\x02" + string(bytes.Repeat([]byte{1}, 300)),
		"\xff\xff\xff\xff\xff\xff\xff\xff\xff\x01", "\xff\xff\xff\xff\xff\xff\xff\xff\xff\x01\x01\x01", "\x80\x80\x80\x80\x80\x80\x80\x80\x80\x01", "\x81\x80\x80\x80\x10\x01",
	} {
		noClock(t, []byte(encoded))
	}
	take(t, append([]byte{64}, full64(1)...), clock.Clock(slices.Repeat([]uint64{1}, 64)), 0)
}

// full64 returns 64 bytes 1, the last one of which is n.
func full64(n byte) []byte {
	return append(bytes.Repeat([]byte{1}, 63), n)
}

// P6.3: every beginning of an encoding is rejected.
func TestTakeOfBeginnings(t *testing.T) {
	for _, c := range []clock.Clock{{1}, {1, 300}, {0, 0, 1 << 40}, {top, top}, full()} {
		b := put(c)
		for n := range b {
			noClock(t, b[:n])
		}
	}
}

// P6.3: of all strings of up to three bytes, Take reads those that begin with what Put writes.
func TestTakeEveryShortString(t *testing.T) {
	for n := range 4 {
		for i := range 1 << (8 * n) {
			b := []byte{byte(i), byte(i >> 8), byte(i >> 16)}[:n]
			r := wire.Read(b)
			c, ok := clock.Take(r)
			if ok != shortClock(b) {
				t.Fatalf("Take of %x = %v, %t", b, c, ok)
			}
			if !ok {
				if len(c) != 0 {
					t.Fatalf("Take of %x = %v, false", b, c)
				}
			} else if got := put(c); !r.Fine() || !bytes.Equal(got, b[:n-r.Left()]) {
				t.Fatalf("Take of %x = %v, of which Put is %x", b, c, got)
			}
		}
	}
}

// shortClock reports whether up to three bytes begin with the encoding of a clock.
func shortClock(b []byte) bool {
	if len(b) == 0 {
		return false
	}
	switch numbers := b[1:]; b[0] {
	case 0:
		return true
	case 1:
		return len(numbers) > 0 && numbers[0] > 0 && numbers[0] < 128 || len(numbers) > 1 && numbers[0] >= 128 && numbers[1] > 0 && numbers[1] < 128
	case 2:
		return len(numbers) > 1 && numbers[0] < 128 && numbers[1] > 0 && numbers[1] < 128
	}
	return false
}

// P6.3: nothing is there for a Reader that has failed.
func TestTakeOfFailedReader(t *testing.T) {
	r := wire.Read([]byte{0x80})
	r.Num()
	if c, ok := clock.Take(r); len(c) != 0 || ok || r.Fine() {
		t.Errorf("Take of a failed Reader = %v, %t", c, ok)
	}
}

// A nil Writer takes nothing, and a nil Reader gives nothing.
func TestNoWriterAndNoReader(t *testing.T) {
	var none *wire.Writer
	clock.Put(none, clock.Clock{1, 2})
	if got := none.Done(); len(got) != 0 {
		t.Errorf("the nil Writer contains %x", got)
	}
	if c, ok := clock.Take(nil); len(c) != 0 || ok {
		t.Errorf("Take(nil) = %v, %t", c, ok)
	}
}
