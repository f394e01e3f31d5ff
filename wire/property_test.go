package wire_test

import (
	"bytes"
	"encoding/binary"
	"math/rand"
	"testing"

	"quadrille/wire"
)

// integer returns the integer with which bytes begin, and the length of its encoding, as the library says; 0, 0: there is none.
func integer(b []byte) (uint64, int) {
	n, size := binary.Uvarint(b)
	// The library also reads encodings that are longer than they need be.
	if size <= 0 || !bytes.Equal(binary.AppendUvarint(nil, n), b[:size]) {
		return 0, 0
	}
	return n, size
}

// sizes returns integers of all sizes.
func sizes() []uint64 {
	var l []uint64
	for i := range 64 {
		power := uint64(1) << i
		l = append(l, power, power-1, power+1, -power, rand.New(rand.NewSource(int64(i))).Uint64()>>i)
	}
	return l
}

// P4.1, P4.2, P4.4
func TestNumsAgainstLibrary(t *testing.T) {
	var w wire.Writer
	var wanted []byte
	for _, n := range sizes() {
		wanted = binary.AppendUvarint(wanted, n)
		if got := w.Num(n).Done(); !bytes.Equal(got, wanted) {
			t.Fatalf("Num(%d): Done = %x; want %x", n, got, wanted)
		}
	}
	r := wire.Read(wanted)
	for _, n := range sizes() {
		if got := r.Num(); got != n {
			t.Fatalf("Num = %d; want %d", got, n)
		}
	}
	ready(t, "all", r, 0)
}

// sameNumber fails the test unless a Reader takes the integer from bytes that the library takes.
func sameNumber(t *testing.T, b []byte) {
	t.Helper()
	n, size := integer(b)
	r := wire.Read(b)
	if got := r.Num(); got != n {
		t.Fatalf("Num of %x = %d; want %d", b, got, n)
	}
	if size == 0 {
		failed(t, "Num", r)
	} else {
		ready(t, "Num", r, len(b)-size)
	}
}

// P4.2: all strings of up to two bytes, and of nine to eleven bytes of which the last three are at the edges.
func TestReadEveryNumber(t *testing.T) {
	for i := range 1 << 16 {
		sameNumber(t, []byte{byte(i)})
		sameNumber(t, []byte{byte(i >> 8), byte(i)})
	}
	edges := []byte{0, 1, 2, 3, 63, 64, 126, 127, 128, 129, 130, 192, 254, 255}
	for _, first := range []byte{128, 129, 255} {
		for n := range 9 {
			head := bytes.Repeat([]byte{first}, n)
			for _, a := range edges {
				for _, b := range edges {
					for _, c := range edges {
						sameNumber(t, append(bytes.Clone(head), a, b, c))
					}
				}
			}
		}
	}
}

// P4.2: every encoding without its last byte, and with a byte that says nothing.
func TestReadOtherForms(t *testing.T) {
	for _, n := range sizes() {
		encoded := new(wire.Writer).Num(n).Done()
		last := len(encoded) - 1
		longer := append(bytes.Clone(encoded), 0)
		longer[last] |= 128
		for _, b := range [][]byte{encoded[:last], longer} {
			r := wire.Read(b)
			if got := r.Num(); got != 0 {
				t.Fatalf("Num of %x = %d; want 0", b, got)
			}
			failed(t, "Num", r)
		}
	}
}

// value is something to be written: a number, an integer with a limit, bytes or a text.
type value struct {
	kind int
	n    uint64
	most int
	b    []byte
}

// anyValue returns some value.
func anyValue(rnd *rand.Rand) value {
	v := value{kind: rnd.Intn(4), n: rnd.Uint64() >> rnd.Intn(64)}
	if v.kind == 1 {
		v.n = uint64(rnd.Intn(1 << rnd.Intn(40)))
		v.most = int(v.n) + rnd.Intn(3)
	}
	v.b = make([]byte, rnd.Intn(1<<rnd.Intn(10)))
	rnd.Read(v.b)
	return v
}

// write writes a value.
func (v value) write(w *wire.Writer) {
	switch v.kind {
	case 0, 1:
		w.Num(v.n)
	case 2:
		w.Bytes(v.b)
	case 3:
		w.Text(string(v.b))
	}
}

// read reads a value of the same kind.
func (v value) read(r *wire.Reader) value {
	got := value{kind: v.kind, most: v.most}
	switch v.kind {
	case 0:
		got.n = r.Num()
	case 1:
		got.n = uint64(r.Int(v.most))
	case 2:
		got.b = r.Bytes()
	case 3:
		got.b = []byte(r.Text())
	}
	return got
}

// same reports whether two values of one kind are the same.
func (v value) same(o value) bool {
	if v.kind < 2 {
		return v.n == o.n
	}
	return bytes.Equal(v.b, o.b)
}

// P4.4: what is written is read, and of its beginnings only values that are there whole.
func TestReadsWhatIsWritten(t *testing.T) {
	rnd := rand.New(rand.NewSource(4))
	for range 400 {
		var w wire.Writer
		var values []value
		var ends []int
		for range rnd.Intn(12) {
			v := anyValue(rnd)
			v.write(&w)
			values, ends = append(values, v), append(ends, len(w.Done()))
		}
		b := w.Done()
		readAll(t, b, values, ends, len(b))
		for range 20 {
			readAll(t, b, values, ends, rnd.Intn(len(b)+1))
		}
	}
}

// readAll reads values off the first n bytes of b, in which the values end at ends.
func readAll(t *testing.T, b []byte, values []value, ends []int, n int) {
	t.Helper()
	r := wire.Read(b[:n])
	for i, v := range values {
		got := v.read(r)
		if ends[i] > n {
			if !got.same(value{kind: v.kind}) {
				t.Fatalf("%v is read where %v is not whole", got, v)
			}
			failed(t, "the last value", r)
			return
		}
		if !got.same(v) {
			t.Fatalf("%v is read; want %v", got, v)
		}
		ready(t, "a value", r, n-ends[i])
	}
}

// P4.4: whatever is read from any bytes, written again it is what was consumed.
func TestWritesWhatIsRead(t *testing.T) {
	rnd := rand.New(rand.NewSource(5))
	for range 20000 {
		b := make([]byte, rnd.Intn(24))
		for i := range b {
			b[i] = []byte{0, 1, 2, 3, 127, 128, 129, 255, byte(rnd.Int())}[rnd.Intn(9)]
		}
		before := bytes.Clone(b)
		r := wire.Read(b)
		var w wire.Writer
		for {
			v := value{kind: rnd.Intn(4), most: rnd.Intn(300)}
			got := v.read(r)
			if !r.Fine() {
				failed(t, "a value", r)
				break
			}
			got.write(&w)
			if consumed := b[:len(b)-r.Left()]; !bytes.Equal(w.Done(), consumed) {
				t.Fatalf("from %x are read %x, but consumed %x", b, w.Done(), consumed)
			}
		}
		if !bytes.Equal(b, before) {
			t.Fatalf("reading changed %x to %x", before, b)
		}
	}
}

// Memory: a Writer keeps none of its arguments and hands out nothing that it keeps.
func TestWriterMemory(t *testing.T) {
	memory := []byte("abcdefgh")
	var w wire.Writer
	w.Num(1).Bytes(memory[:3])
	if string(memory) != "abcdefgh" {
		t.Errorf("Bytes changed its argument: %q", memory)
	}
	clear(memory)
	first := w.Done()
	if string(first) != "\x01\x03abc" {
		t.Errorf("Bytes keeps its argument: %q", first)
	}
	second := w.Done()
	clear(first)
	_ = append(first, "zzzzzzzz"...)
	if string(second) != "\x01\x03abc" || string(w.Done()) != "\x01\x03abc" {
		t.Error("what Done returns is shared")
	}
	w.Num(5).Num(6)
	_ = append(second, "zzzzzzzz"...)
	if string(w.Done()) != "\x01\x03abc\x05\x06" || string(second) != "\x01\x03abc" {
		t.Error("what Done returns reaches what is appended later")
	}
}

// Memory: a Reader keeps none of its arguments, and what it returns is shared with nothing.
func TestReaderMemory(t *testing.T) {
	memory := []byte("\x02ab\x02cd\x02ef~~~~")
	r := wire.Read(memory[:9])
	first := r.Bytes()
	_ = append(first, "zzzzzzzz"...)
	if string(memory) != "\x02ab\x02cd\x02ef~~~~" {
		t.Errorf("reading changed the argument: %q", memory)
	}
	clear(memory)
	second := r.Bytes()
	clear(first)
	_ = append(second, "zzzzzzzz"...)
	third := r.Text()
	clear(second)
	if string(first) != "\x00\x00" || third != "ef" || !r.End() {
		t.Errorf("%q and %q are read; the memory is shared", first, third)
	}

	whole := []byte("\x02ab\x02cd")
	r = wire.Read(whole)
	got, next := r.Bytes(), r.Bytes()
	clear(whole)
	if string(got) != "ab" || string(next) != "cd" {
		t.Errorf("%q and %q share memory with the argument", got, next)
	}
}

// A Reader and a Writer of their own each: none knows of another one.
func TestObjectsApart(t *testing.T) {
	b := []byte("\x01\x02\x03")
	one, other := wire.Read(b), wire.Read(b)
	if one.Num() != 1 || one.Num() != 2 || other.Num() != 1 || one.Int(2) != 0 || other.Num() != 2 || !other.Fine() {
		t.Error("one Reader moves another one")
	}
	var v, w wire.Writer
	v.Num(1)
	w.Num(2)
	if string(v.Done()) != "\x01" || string(w.Done()) != "\x02" {
		t.Error("one Writer writes into another one")
	}
}
