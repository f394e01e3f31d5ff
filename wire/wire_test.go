package wire_test

import (
	"bytes"
	"math"
	"strings"
	"testing"

	"quadrille/wire"
)

// numbers are integers with their encodings.
var numbers = []struct {
	n       uint64
	encoded string
}{
	{0, "\x00"}, {1, "\x01"}, {2, "\x02"}, {64, "\x40"}, {126, "\x7e"}, {127, "\x7f"},
	{128, "\x80\x01"}, {129, "\x81\x01"}, {255, "\xff\x01"}, {256, "\x80\x02"}, {300, "\xac\x02"},
	{16383, "\xff\x7f"}, {16384, "\x80\x80\x01"}, {16385, "\x81\x80\x01"}, {65536, "\x80\x80\x04"},
	{1<<21 - 1, "\xff\xff\x7f"}, {1 << 21, "\x80\x80\x80\x01"},
	{1 << 28, "\x80\x80\x80\x80\x01"},
	{math.MaxUint32, "\xff\xff\xff\xff\x0f"}, {1 << 32, "\x80\x80\x80\x80\x10"},
	{1 << 40, "\x80\x80\x80\x80\x80\x20"},
	{1<<56 - 1, "\xff\xff\xff\xff\xff\xff\xff\x7f"}, {1 << 56, "\x80\x80\x80\x80\x80\x80\x80\x80\x01"},
	{math.MaxInt64, "\xff\xff\xff\xff\xff\xff\xff\xff\x7f"},
	{1 << 63, "\x80\x80\x80\x80\x80\x80\x80\x80\x80\x01"}, {1<<63 + 1, "\x81\x80\x80\x80\x80\x80\x80\x80\x80\x01"},
	{math.MaxUint64 - 1, "\xfe\xff\xff\xff\xff\xff\xff\xff\xff\x01"},
	{math.MaxUint64, "\xff\xff\xff\xff\xff\xff\xff\xff\xff\x01"},
}

// noNumbers are bytes that do not begin with the encoding of an integer.
var noNumbers = []string{
	"",
	// The last byte is missing.
	"\x80", "\xff", "\x80\x80", "\xff\xff\xff", "\xac\x82", strings.Repeat("\xff", 9), strings.Repeat("\x80", 9),
	// Not minimal: 0, 1, 127, 128 and 2^63 - 1 with bytes that say nothing.
	"\x80\x00", "\x80\x80\x00", "\x81\x00", "\x81\x80\x00", "\xff\x00", "\x80\x81\x00", "\x80\x00\x01", "\x80\x00\x80\x01",
	strings.Repeat("\x80", 9) + "\x00", strings.Repeat("\xff", 9) + "\x00", strings.Repeat("\x80", 8) + "\x00",
	// Above 2^64 - 1.
	strings.Repeat("\x80", 9) + "\x02", strings.Repeat("\xff", 9) + "\x02", strings.Repeat("\xff", 9) + "\x03",
	strings.Repeat("\x80", 9) + "\x7f", strings.Repeat("\xff", 9) + "\x7f", strings.Repeat("\x80", 9) + "\x04",
	strings.Repeat("\x80", 10), strings.Repeat("\xff", 10), strings.Repeat("\x80", 9) + "\x81\x00", strings.Repeat("\xff", 9) + "\x81\x00",
	strings.Repeat("\x80", 10) + "\x00", strings.Repeat("\x80", 10) + "\x01", strings.Repeat("\xff", 10) + "\x01",
	strings.Repeat("\x80", 9) + "\x81\x01", strings.Repeat("\x80", 63) + "\x01", strings.Repeat("\x80", 64) + "\x01", strings.Repeat("\xff", 300) + "\x01",
}

// ready fails the test unless a Reader has not failed and has so many bytes left.
func ready(t *testing.T, call string, r *wire.Reader, left int) {
	t.Helper()
	if !r.Fine() || r.Left() != left || r.End() != (left == 0) {
		t.Errorf("after %s: Left %d, Fine %t, End %t; want %d, true, %t", call, r.Left(), r.Fine(), r.End(), left, left == 0)
	}
}

// failed fails the test unless a Reader has failed, and stays so whatever is read.
func failed(t *testing.T, call string, r *wire.Reader) {
	t.Helper()
	for range 2 {
		if r.Fine() || r.End() || r.Left() != 0 {
			t.Errorf("after %s: Left %d, Fine %t, End %t; want 0, false, false", call, r.Left(), r.Fine(), r.End())
		}
		n, i, b, s := r.Num(), r.Int(math.MaxInt), r.Bytes(), r.Text()
		if n != 0 || i != 0 || len(b) != 0 || s != "" {
			t.Errorf("after %s: %d, %d, %q and %q are read; want nothing", call, n, i, b, s)
		}
	}
}

// written returns what stands in the encoding of a string of bytes.
func written(s string) string {
	return string(new(wire.Writer).Num(uint64(len(s))).Done()) + s
}

func TestMostBytes(t *testing.T) {
	if wire.MostBytes != 65536 {
		t.Error(wire.MostBytes)
	}
}

// P4.1
func TestWriteNum(t *testing.T) {
	for _, c := range numbers {
		var w wire.Writer
		if got := string(w.Num(c.n).Done()); got != c.encoded {
			t.Errorf("Num(%d) appends %x; want %x", c.n, got, c.encoded)
		}
	}
}

// P4.1
func TestWriteBytesAndText(t *testing.T) {
	for _, c := range []struct{ s, encoded string }{
		{"", "\x00"}, {"a", "\x01a"}, {"ab", "\x02ab"}, {"\x00", "\x01\x00"}, {"\x80\xff\x00", "\x03\x80\xff\x00"},
		{"\u00e9\u2020", "\x05\xc3\xa9\xe2\x80\xa0"},
		{strings.Repeat("x", 127), "\x7f" + strings.Repeat("x", 127)},
		{strings.Repeat("y", 128), "\x80\x01" + strings.Repeat("y", 128)},
		{strings.Repeat("z", 300), "\xac\x02" + strings.Repeat("z", 300)},
		{strings.Repeat("q", 65536), "\x80\x80\x04" + strings.Repeat("q", 65536)},
		// A Writer takes more than a Reader does.
		{strings.Repeat("r", 65537), "\x81\x80\x04" + strings.Repeat("r", 65537)},
	} {
		if got := string(new(wire.Writer).Bytes([]byte(c.s)).Done()); got != c.encoded {
			t.Errorf("Bytes of %d bytes appends %d bytes, or others", len(c.s), len(got))
		}
		if got := string(new(wire.Writer).Text(c.s).Done()); got != c.encoded {
			t.Errorf("Text of %d bytes appends %d bytes, or others", len(c.s), len(got))
		}
	}
	if got := string(new(wire.Writer).Bytes(nil).Done()); got != "\x00" {
		t.Errorf("Bytes(nil) appends %q", got)
	}
}

// P4.1
func TestWriterOfNothing(t *testing.T) {
	var zero wire.Writer
	if b := zero.Done(); len(b) != 0 {
		t.Errorf("the zero Writer contains %q", b)
	}
	var none *wire.Writer
	if b := none.Done(); len(b) != 0 {
		t.Errorf("the nil Writer contains %q", b)
	}
	if none.Num(1) != nil || none.Bytes([]byte("a")) != nil || none.Text("a") != nil {
		t.Error("a method of the nil Writer does not return it")
	}
}

// P4.1: each method returns its own Writer, and what is appended stays in order.
func TestWriterInOrder(t *testing.T) {
	var w wire.Writer
	if w.Num(300) != &w || w.Bytes([]byte{7, 200}) != &w || w.Text("hi") != &w {
		t.Error("a method does not return its Writer")
	}
	w.Text("").Num(0).Bytes([]byte{0}).Num(127).Num(128)
	want := "\xac\x02" + "\x02\x07\xc8" + "\x02hi" + "\x00" + "\x00" + "\x01\x00" + "\x7f" + "\x80\x01"
	for range 2 {
		if got := string(w.Done()); got != want {
			t.Errorf("Done = %x; want %x", got, want)
		}
	}
	if got := string(w.Num(1).Done()); got != want+"\x01" {
		t.Errorf("Done after another Num = %x", got)
	}
}

// P4.2, P4.3: what is behind an integer is left.
func TestReadNum(t *testing.T) {
	for _, c := range numbers {
		for _, behind := range []string{"", "\x00", "\x80", "\xff\xff"} {
			r := wire.Read([]byte(c.encoded + behind))
			ready(t, "Read", r, len(c.encoded+behind))
			if got := r.Num(); got != c.n {
				t.Errorf("Num of %x = %d; want %d", c.encoded+behind, got, c.n)
			}
			ready(t, "Num", r, len(behind))
		}
	}
}

// P4.2
func TestNoNum(t *testing.T) {
	for _, encoded := range noNumbers {
		r := wire.Read([]byte(encoded))
		if got := r.Num(); got != 0 {
			t.Errorf("Num of %x = %d; want 0", encoded, got)
		}
		failed(t, "Num", r)
		r = wire.Read([]byte(encoded))
		if got := r.Int(math.MaxInt); got != 0 {
			t.Errorf("Int of %x = %d; want 0", encoded, got)
		}
		failed(t, "Int", r)
		r = wire.Read([]byte(encoded + "ab"))
		if encoded == "" || encoded[len(encoded)-1] >= 128 {
			continue // The two bytes behind it complete an integer, perhaps.
		}
		if got := r.Bytes(); len(got) != 0 {
			t.Errorf("Bytes of %x = %q; want nothing", encoded, got)
		}
		failed(t, "Bytes", r)
		r = wire.Read([]byte(encoded + "ab"))
		if got := r.Text(); got != "" {
			t.Errorf("Text of %x = %q; want nothing", encoded, got)
		}
		failed(t, "Text", r)
	}
}

// P4.2: the greatest integer is allowed itself; one more is none.
func TestReadInt(t *testing.T) {
	for _, c := range []struct {
		n    uint64
		most int
		ok   bool
	}{
		{0, 0, true}, {0, 1, true}, {1, 1, true}, {1, 0, false}, {5, 9, true}, {9, 9, true}, {10, 9, false},
		{127, 127, true}, {128, 127, false}, {128, 128, true}, {64, 64, true}, {65, 64, false},
		{65536, 65536, true}, {65537, 65536, false},
		{math.MaxInt, math.MaxInt, true}, {math.MaxInt - 1, math.MaxInt - 1, true}, {math.MaxInt, math.MaxInt - 1, false},
		{math.MaxInt + 1, math.MaxInt, false}, {math.MaxUint64, math.MaxInt, false}, {math.MaxUint64, 0, false},
		// As an int these would be small, or negative.
		{1 << 63, 5, false}, {1<<63 + 1, 5, false}, {1<<32 + 1, 5, false}, {math.MaxUint64 - 1, 5, false},
		// No integer is at most a negative one.
		{0, -1, false}, {1, -1, false}, {0, math.MinInt, false}, {math.MaxUint64, -1, false}, {1 << 63, math.MinInt, false}, {math.MaxInt, -2, false},
	} {
		r := wire.Read(new(wire.Writer).Num(c.n).Num(3).Done())
		got := r.Int(c.most)
		if !c.ok {
			if got != 0 {
				t.Errorf("Int(%d) of %d = %d; want 0", c.most, c.n, got)
			}
			failed(t, "Int", r)
			continue
		}
		if got != int(c.n) {
			t.Errorf("Int(%d) of %d = %d", c.most, c.n, got)
		}
		ready(t, "Int", r, 1)
	}
}

// P4.2: every byte is content, and what is behind the last one is left.
func TestReadBytesAndText(t *testing.T) {
	for _, s := range []string{
		"", "a", "ab", "\x00", "\x80", "\xff\xff\xff", "\x00\x00", "\u00e9\u2020", "\xc3", "\x05abc",
		strings.Repeat("x", 127), strings.Repeat("x", 128), strings.Repeat("x", 16384),
		strings.Repeat("x", 65535), strings.Repeat("x", 65536),
	} {
		for _, behind := range []string{"", "\x00", "\x80", "tail"} {
			r := wire.Read([]byte(written(s) + behind))
			if got := r.Bytes(); string(got) != s {
				t.Errorf("Bytes of %d bytes = %d bytes, or others", len(s), len(got))
			}
			ready(t, "Bytes", r, len(behind))
			r = wire.Read([]byte(written(s) + behind))
			if got := r.Text(); got != s {
				t.Errorf("Text of %d bytes = %d bytes, or others", len(s), len(got))
			}
			ready(t, "Text", r, len(behind))
		}
	}
}

// P4.2
func TestNoBytes(t *testing.T) {
	for _, encoded := range []string{
		"", "\x01", "\x02a", "\x05\x01\x02", "\x7f" + strings.Repeat("x", 126), "\x80\x01" + strings.Repeat("x", 127),
		"\x80\x80\x04" + strings.Repeat("x", 65535),
		// A number of bytes that is not minimal.
		"\x80\x00", "\x81\x00a", "\x82\x80\x00ab",
		// More than 65536 bytes, though all of them are there.
		"\x81\x80\x04" + strings.Repeat("x", 65537), "\x80\x80\x08" + strings.Repeat("x", 131072),
		// Numbers that no memory holds.
		"\xff\xff\xff\xff\x07abc", "\xff\xff\xff\xff\xff\xff\xff\xff\x7fabc",
		"\x81\x80\x80\x80\x80\x80\x80\x80\x80\x01a", "\xff\xff\xff\xff\xff\xff\xff\xff\xff\x01abc", "\xfd\xff\xff\xff\xff\xff\xff\xff\xff\x01abc",
		"\x81\x80\x80\x80\x10a",
	} {
		r := wire.Read([]byte(encoded))
		if got := r.Bytes(); len(got) != 0 {
			t.Errorf("Bytes of %.20q = %.20q; want nothing", encoded, got)
		}
		failed(t, "Bytes", r)
		r = wire.Read([]byte(encoded))
		if got := r.Text(); got != "" {
			t.Errorf("Text of %.20q = %.20q; want nothing", encoded, got)
		}
		failed(t, "Text", r)
	}
}

// P4.2: a Reader that has failed does not go on with what would be the next value.
func TestFailedInTheMiddle(t *testing.T) {
	all := []byte("\x05\x02ab\x09\x01c\x07")
	r := wire.Read(all)
	if r.Num() != 5 || r.Text() != "ab" {
		t.Error("the first values are not read")
	}
	ready(t, "two values", r, 4)
	if got := r.Int(8); got != 0 {
		t.Errorf("Int(8) of 9 = %d", got)
	}
	failed(t, "Int", r)
	r = wire.Read(all)
	r.Num()
	r.Int(-1)
	failed(t, "Int of a negative number", r)
}

// P4.3
func TestNoReader(t *testing.T) {
	var none *wire.Reader
	failed(t, "nothing", none)
	if none.Int(-1) != 0 || none.Int(0) != 0 {
		t.Error("the nil Reader reads an integer")
	}
	failed(t, "Int", none)
}

// P4.3: a Reader of no bytes is at its end, until something is read from it.
func TestReaderOfNothing(t *testing.T) {
	for _, b := range [][]byte{nil, {}} {
		r := wire.Read(b)
		if r == nil {
			t.Fatal("Read returns nil")
		}
		ready(t, "Read", r, 0)
		if r.Num() != 0 {
			t.Error("Num of nothing is not 0")
		}
		failed(t, "Num", r)
	}
}

// P4.3: asking a Reader consumes nothing.
func TestAskingConsumesNothing(t *testing.T) {
	b := []byte("\x01\x02ab")
	r := wire.Read(b)
	for range 3 {
		ready(t, "asking", r, 4)
	}
	if r.Num() != 1 || !bytes.Equal(r.Bytes(), []byte("ab")) {
		t.Error("other values are read")
	}
	ready(t, "everything", r, 0)
	r.Bytes()
	failed(t, "more", r)
}
