package crc_test

import (
	"bytes"
	"hash/crc32"
	"slices"
	"strings"
	"testing"

	"hectare/crc"
)

// known is what the library says of b behind bytes whose sum is sum.
func known(sum uint32, b []byte) uint32 {
	return crc32.Update(sum, crc32.MakeTable(crc32.Castagnoli), b)
}

// spelt is the sum, bit by bit, as the chapter's words have it.
func spelt(b []byte) uint32 {
	register := uint32(0xFFFFFFFF)
	for _, c := range b {
		register ^= uint32(c)
		for range 8 {
			if register&1 == 1 {
				register = register>>1 ^ 0x82F63B78
			} else {
				register >>= 1
			}
		}
	}
	return ^register
}

// texts are some of each length up to 40, and longer ones, by a rule.
func texts() [][]byte {
	var l [][]byte
	x := uint32(1)
	for n := range 50 {
		if n > 40 {
			n = 1<<(n-33) + n%3 - 1
		}
		b := make([]byte, n)
		for i := range b {
			x = x*1664525 + 1013904223
			b[i] = byte(x >> 24)
		}
		l = append(l, b, bytes.Repeat([]byte{0}, n), bytes.Repeat([]byte{0xFF}, n))
	}
	return l
}

// sums are some of no text in particular.
func sums() []uint32 {
	l := []uint32{0, 1, 7, 1<<31 - 1, 1 << 31, 1<<32 - 1, 0x82F63B78, 0x1EDC6F41, 3808858755}
	for bit := range 32 {
		l = append(l, 1<<bit, ^uint32(1<<bit))
	}
	return l
}

// rising are the bytes 0 to n - 1.
func rising(n int) []byte {
	b := make([]byte, n)
	for i := range b {
		b[i] = byte(i)
	}
	return b
}

// P2.1: the chapter's examples, and those of RFC 3720, appendix B.4.
func TestSumsThatAreKnown(t *testing.T) {
	falling := rising(32)
	slices.Reverse(falling)
	read := "\x01\xc0\x00\x00\x00\x00\x00\x00\x00\x00\x00\x00\x00\x00\x00\x00\x14\x00\x00\x00\x00\x00\x04\x00" +
		"\x00\x00\x00\x14\x00\x00\x00\x18\x28\x00\x00\x00\x00\x00\x00\x00\x02\x00\x00\x00\x00\x00\x00\x00"
	for _, x := range []struct {
		s    string
		want uint32
	}{
		{"", 0}, {"123456789", 3808858755}, {"a", 3251651376}, {"\x00\x00\x00\x00", 1214729159},
		{strings.Repeat("\x00", 32), 0x8A9136AA}, {strings.Repeat("\xff", 32), 0x62A8AB43},
		{string(rising(32)), 0x46DD794E}, {string(falling), 0x113FDB5C}, {read, 0xD9963A56},
	} {
		if got := crc.Sum([]byte(x.s)); got != x.want {
			t.Errorf("Sum of % x: %d, want %d", x.s, got, x.want)
		}
	}
}

// P2.1: one text, whatever it is.
func TestSumOfOne(t *testing.T) {
	l := texts()
	for c := range 256 {
		l = append(l, []byte{byte(c)}, []byte{byte(c), byte(c >> 4), 0}, []byte{0xFF, byte(c)})
	}
	for _, b := range l {
		if got, want := crc.Sum(b), known(0, b); got != want || got != spelt(b) {
			t.Fatalf("Sum of %d bytes, % x: %d, want %d", len(b), b[:min(len(b), 9)], got, want)
		}
	}
}

// P2.1: none, and several, one behind the other; where they are cut does not matter.
func TestSumOfSeveral(t *testing.T) {
	for _, l := range [][][]byte{nil, {}, {nil}, {{}}, {nil, {}, nil}} {
		if got := crc.Sum(l...); got != 0 {
			t.Errorf("Sum of %v: %d", l, got)
		}
	}
	b := rising(60)
	want := known(0, b)
	for i := range len(b) + 1 {
		for k := i; k <= len(b); k++ {
			if got := crc.Sum(b[:i], b[i:k], nil, b[k:]); got != want {
				t.Fatalf("Sum of 60 bytes cut at %d and %d: %d, want %d", i, k, got, want)
			}
		}
	}
	if crc.Sum([]byte("ab"), []byte("c")) == crc.Sum([]byte("c"), []byte("ab")) {
		t.Error("Sum does not mind the order of pieces")
	}
	if got, want := crc.Sum(texts()...), known(0, bytes.Join(texts(), nil)); got != want {
		t.Errorf("Sum of all texts: %d, want %d", got, want)
	}
}

// P2.2: More, behind any sum.
func TestMore(t *testing.T) {
	if got := crc.More(crc.Sum([]byte("12345")), []byte("6789")); got != 3808858755 {
		t.Errorf("More of 12345 and 6789: %d", got)
	}
	for _, sum := range sums() {
		for _, b := range [][]byte{nil, {}} {
			if got := crc.More(sum, b); got != sum {
				t.Errorf("More(%d) of nothing: %d", sum, got)
			}
		}
		for _, b := range texts()[:130] {
			if got, want := crc.More(sum, b), known(sum, b); got != want {
				t.Fatalf("More(%d) of % x: %d, want %d", sum, b, got, want)
			}
		}
	}
}

// P2.2: whatever bytes have that sum; More behind each of two such texts is one and the same.
func TestMoreHangsOnTheSumAlone(t *testing.T) {
	a := []byte("some text")
	sum := crc.Sum(a)
	b := append([]byte("another one, and longer"), ending("another one, and longer", sum)...)
	if crc.Sum(b) != sum {
		t.Fatalf("the text that should have the sum %d has %d", sum, crc.Sum(b))
	}
	for _, tail := range texts()[:60] {
		want := known(0, slices.Concat(b, tail))
		if got := crc.More(sum, tail); got != want || got != known(0, slices.Concat(a, tail)) {
			t.Errorf("More of % x: %d, want %d", tail, got, want)
		}
	}
}

// ending answers the four bytes behind s that make the sum of both that one: going back from where the register shall be to where s leaves it.
func ending(s string, sum uint32) []byte {
	register := ^sum
	for range 32 {
		if register>>31 == 1 {
			register = (register^0x82F63B78)<<1 | 1
		} else {
			register <<= 1
		}
	}
	register ^= ^known(0, []byte(s))
	return []byte{byte(register), byte(register >> 8), byte(register >> 16), byte(register >> 24)}
}

// P2.3: Holds.
func TestHolds(t *testing.T) {
	if !crc.Holds([]byte("123456789"), 3808858755) || !crc.Holds(nil, 0) || !crc.Holds([]byte{}, 0) {
		t.Error("a sum that is one does not hold")
	}
	for _, b := range texts() {
		sum := known(0, b)
		if !crc.Holds(b, sum) {
			t.Errorf("%d is not the sum of %d bytes", sum, len(b))
		}
		if crc.Holds(b, ^sum) || crc.Holds(b, sum+1) || crc.Holds(b, sum-1) {
			t.Errorf("another number than %d is the sum of %d bytes, too", sum, len(b))
		}
		for bit := range 32 {
			if crc.Holds(b, sum^1<<bit) {
				t.Errorf("the sum of %d bytes holds without its bit %d", len(b), bit)
			}
		}
	}
}

// The rules for all layers: what is handed in is not changed, nor what lies behind it; and a call leaves nothing behind that another one would see.
func TestArgumentsStay(t *testing.T) {
	room := []byte("0123456789abcdef")
	b := room[2:8]
	l := [][]byte{b, b[:0], b[3:]}
	for range 2 {
		if crc.Sum(l...) != known(0, []byte("234567567")) || crc.More(9, b) != known(9, []byte("234567")) || crc.Holds(b, 9) {
			t.Error("a call answers something else")
		}
	}
	if string(room) != "0123456789abcdef" || len(l) != 3 || string(l[0]) != "234567" || len(l[1]) != 0 || string(l[2]) != "567" {
		t.Errorf("arguments are changed: %q, %q", room, l)
	}
}
