package check_test

import (
	"bytes"
	"slices"
	"testing"

	"quadrille/check"
)

// ascending returns n bytes that grow by one, from the first one on.
func ascending(first byte, n int) []byte {
	b := make([]byte, n)
	for i := range b {
		b[i] = first + byte(i)
	}
	return b
}

// P3.1: sums that are written in RFC 3720 and elsewhere.
func TestSumOfKnownBytes(t *testing.T) {
	descending := ascending(0, 32)
	slices.Reverse(descending)
	for _, c := range []struct {
		name string
		b    []byte
		sum  uint32
	}{
		{"nil", nil, 0},
		{"no bytes", []byte{}, 0},
		{"a", []byte("a"), 0xc1d04330},
		{"abc", []byte("abc"), 0x364b3fb7},
		{"123456789", []byte("123456789"), 0xe3069283},
		{"the fox", []byte("The quick brown fox jumps over the lazy dog"), 0x22620404},
		{"32 zeros", make([]byte, 32), 0x8a9136aa},
		{"32 ones", bytes.Repeat([]byte{0xff}, 32), 0x62a8ab43},
		{"ascending", ascending(0, 32), 0x46dd794e},
		{"descending", descending, 0x113fdb5c},
		{"one zero", []byte{0}, 0x527d5351},
		{"four ones", []byte{0xff, 0xff, 0xff, 0xff}, 0xffffffff},
	} {
		if got := check.Sum(c.b); got != c.sum {
			t.Errorf("Sum of %s = %08x; want %08x", c.name, got, c.sum)
		}
	}
}

// P3.1
func TestSumOfNothing(t *testing.T) {
	if got := check.Sum(); got != 0 {
		t.Errorf("Sum of no parts = %08x; want 0", got)
	}
	if got := check.Sum(nil, []byte{}, nil); got != 0 {
		t.Errorf("Sum of empty parts = %08x; want 0", got)
	}
}

// P3.1: the parts are summed in order, each of them whole.
func TestSumOfParts(t *testing.T) {
	for _, parts := range [][]string{
		{"123456789"}, {"1", "23456789"}, {"12345678", "9"}, {"123", "456", "789"},
		{"", "123456789"}, {"123456789", ""}, {"1234", "", "56789"}, {"", "", "12345", "", "6789", "", ""},
		{"1", "2", "3", "4", "5", "6", "7", "8", "9"},
	} {
		var l [][]byte
		for _, p := range parts {
			l = append(l, []byte(p))
		}
		if got := check.Sum(l...); got != 0xe3069283 {
			t.Errorf("Sum of %q = %08x; want e3069283", parts, got)
		}
	}
	if check.Sum([]byte("12"), []byte("34")) == check.Sum([]byte("34"), []byte("12")) {
		t.Error("the order of the parts says nothing")
	}
}

// P3.2
func TestSeal(t *testing.T) {
	for _, c := range []struct{ content, sealed string }{
		{"", "\x00\x00\x00\x00"},
		{"a", "a\xc1\xd0\x43\x30"},
		{"123456789", "123456789\xe3\x06\x92\x83"},
		{"\xff\xff\xff\xff", "\xff\xff\xff\xff\xff\xff\xff\xff"},
		{"123456789\xe3\x06\x92\x83", "123456789\xe3\x06\x92\x83\xba\xf5\x57\xbe"},
	} {
		if got := string(check.Seal([]byte(c.content))); got != c.sealed {
			t.Errorf("Seal(%q) = %q; want %q", c.content, got, c.sealed)
		}
		got, ok := check.Open([]byte(c.sealed))
		if string(got) != c.content || !ok {
			t.Errorf("Open(%q) = %q, %t; want %q, true", c.sealed, got, ok, c.content)
		}
	}
	if got := check.Seal(nil); !bytes.Equal(got, make([]byte, 4)) {
		t.Errorf("Seal(nil) = %q", got)
	}
}

// P3.2
func TestOpenRejects(t *testing.T) {
	for _, sealed := range []string{
		"", "\x00", "\x00\x00", "\x00\x00\x00", "abc",
		// Four bytes are the sealed form of nothing, if all are 0.
		"\x00\x00\x00\x01", "\x01\x00\x00\x00", "\xff\xff\xff\xff",
		"\x00\x00\x00\x00\x00", "a", "a\xc1\xd0\x43",
		// The least significant byte first; in front; not complemented; of another byte.
		"a\x30\x43\xd0\xc1", "\xc1\xd0\x43\x30a", "a\x3e\x2f\xbc\xcf", "b\xc1\xd0\x43\x30",
		"123456789", "123456789\x83\x92\x06\xe3",
		// A byte too few, a byte too many.
		"23456789\xe3\x06\x92\x83", "0123456789\xe3\x06\x92\x83",
		"123456789\xe3\x06\x92", "123456789\xe3\x06\x92\x83\x00",
	} {
		if got, ok := check.Open([]byte(sealed)); len(got) != 0 || ok {
			t.Errorf("Open(%q) = %q, %t; want nothing, false", sealed, got, ok)
		}
	}
	if got, ok := check.Open(nil); len(got) != 0 || ok {
		t.Errorf("Open(nil) = %q, %t; want nothing, false", got, ok)
	}
}
