package check_test

import (
	"bytes"
	"hash/crc32"
	"testing"

	"quadrille/check"
)

// bitwise returns the checksum as the document says it, one bit after the other.
func bitwise(l []byte) uint32 {
	c := uint32(0xffffffff)
	for _, b := range l {
		c ^= uint32(b)
		for range 8 {
			out := c & 1
			c >>= 1
			if out == 1 {
				c ^= 0x82f63b78
			}
		}
	}
	return ^c
}

// mixed returns n bytes of no pattern, others for each seed.
func mixed(seed uint64, n int) []byte {
	b := make([]byte, n)
	for i := range b {
		seed = seed*6364136223846793005 + 1442695040888963407
		b[i] = byte(seed >> 56)
	}
	return b
}

// samples returns bytes of many lengths.
func samples() [][]byte {
	l := [][]byte{{}}
	for n := range 70 {
		l = append(l, mixed(uint64(n), n), make([]byte, n), bytes.Repeat([]byte{0xff}, n))
	}
	return append(l, mixed(70, 255), mixed(71, 256), mixed(72, 257), mixed(73, 5000))
}

// P3.1
func TestSumAgainstBits(t *testing.T) {
	table := crc32.MakeTable(crc32.Castagnoli)
	for _, b := range samples() {
		got := check.Sum(b)
		if wanted := bitwise(b); got != wanted {
			t.Errorf("Sum(%x) = %08x; want %08x", b, got, wanted)
		}
		if wanted := crc32.Checksum(b, table); got != wanted {
			t.Errorf("Sum(%x) = %08x; want %08x, as the library says", b, got, wanted)
		}
	}
}

// P3.1: all strings of one byte and of two.
func TestSumOfShortStrings(t *testing.T) {
	for i := range 1 << 16 {
		high, low := byte(i>>8), byte(i)
		for _, b := range [][]byte{{low}, {high, low}} {
			if got, wanted := check.Sum(b), bitwise(b); got != wanted {
				t.Fatalf("Sum(%x) = %08x; want %08x", b, got, wanted)
			}
		}
	}
}

// P3.3
func TestSumOfDividedBytes(t *testing.T) {
	for _, b := range samples()[:100] {
		wanted := check.Sum(b)
		for i := range len(b) + 1 {
			for j := i; j <= len(b); j++ {
				if got := check.Sum(b[:i], b[i:j], b[j:]); got != wanted {
					t.Fatalf("Sum of %x divided at %d and %d = %08x; want %08x", b, i, j, got, wanted)
				}
			}
		}
	}
}

// P3.2, P3.3
func TestOpenInvertsSeal(t *testing.T) {
	for _, b := range samples() {
		sealed := check.Seal(b)
		sum := bitwise(b)
		wanted := append(bytes.Clone(b), byte(sum>>24), byte(sum>>16), byte(sum>>8), byte(sum))
		if !bytes.Equal(sealed, wanted) {
			t.Errorf("Seal(%x) = %x; want %x", b, sealed, wanted)
		}
		if got, ok := check.Open(sealed); !ok || !bytes.Equal(got, b) {
			t.Errorf("Open(Seal(%x)) = %x, %t", b, got, ok)
		}
	}
}

// P3.2: what Open accepts is the sealed form of what it answers.
func TestSealInvertsOpen(t *testing.T) {
	for _, b := range samples() {
		content, ok := check.Open(b)
		if ok && !bytes.Equal(check.Seal(content), b) {
			t.Errorf("Open(%x) = %x, which has another sealed form", b, content)
		}
		if !ok && len(content) != 0 {
			t.Errorf("Open(%x) = %x, false", b, content)
		}
	}
}

// P3.2: one byte changed, wherever and to whatever, is never the sealed form of anything.
func TestOpenRejectsEveryChangedByte(t *testing.T) {
	for _, b := range [][]byte{{}, {7}, mixed(1, 20), make([]byte, 12)} {
		sealed := check.Seal(b)
		for i := range sealed {
			for change := 1; change < 256; change++ {
				sealed[i] ^= byte(change)
				if got, ok := check.Open(sealed); ok || len(got) != 0 {
					t.Fatalf("Open(%x) = %x, %t; want nothing, false", sealed, got, ok)
				}
				sealed[i] ^= byte(change)
			}
		}
	}
}

// P3.2: of the beginnings of a sealed form none is one, but by chance.
func TestOpenRejectsBeginnings(t *testing.T) {
	sealed := check.Seal(mixed(2, 40))
	for n := range sealed {
		if got, ok := check.Open(sealed[:n]); ok || len(got) != 0 {
			t.Errorf("Open(%x) = %x, %t; want nothing, false", sealed[:n], got, ok)
		}
	}
}

// roomy returns a copy of the bytes with spare capacity behind them, and the whole memory of it.
func roomy(b []byte) ([]byte, []byte) {
	memory := bytes.Repeat([]byte{0xa5}, len(b)+20)
	copy(memory, b)
	return memory[:len(b)], memory
}

// Memory: arguments are not changed, with their spare capacity, and results share none with them.
func TestMemory(t *testing.T) {
	for _, b := range samples() {
		content, memory := roomy(b)
		before := bytes.Clone(memory)
		sealed := check.Seal(content)
		check.Sum(content, content)
		if !bytes.Equal(memory, before) {
			t.Errorf("Seal or Sum changed the memory of %x", b)
		}
		clear(memory)
		if wanted := check.Seal(b); !bytes.Equal(sealed, wanted) {
			t.Errorf("Seal(%x) shares memory with its argument", b)
		}

		whole, memory := roomy(sealed)
		before = bytes.Clone(memory)
		got, _ := check.Open(whole)
		if !bytes.Equal(memory, before) {
			t.Errorf("Open changed the memory of %x", sealed)
		}
		_ = append(got, 0xee)
		if !bytes.Equal(memory, before) {
			t.Errorf("what Open answers for %x reaches its argument", sealed)
		}
		clear(memory)
		if !bytes.Equal(got, b) {
			t.Errorf("what Open answers for %x shares memory with it", sealed)
		}
	}
}
