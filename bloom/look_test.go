package bloom_test

import (
	"bytes"
	"math"
	"slices"
	"strings"
	"testing"

	"hectare/api"
	"hectare/bloom"
)

// full is a filter of n bytes, all bits of which are 1.
func full(n int) []byte {
	return bytes.Repeat([]byte{0xFF}, n)
}

// P7.2: a key's bits that were worked out apart, in the order in which the rule has them.
func TestBitsThatAreKnown(t *testing.T) {
	for _, x := range []struct {
		key  string
		m    int
		want [5]int
	}{
		{"", 1, [5]int{}}, {"", 2, [5]int{0, 1, 0, 1, 0}}, {"", 3, [5]int{0, 2, 0, 2, 0}}, {"", 64, [5]int{0, 19, 38, 57, 12}}, {"", 1 << 20, [5]int{0, 446547, 893094, 291065, 737612}},
		{"a", 1, [5]int{}}, {"a", 3, [5]int{0, 0, 1, 1, 1}}, {"a", 64, [5]int{48, 17, 50, 19, 52}}, {"a", 100, [5]int{76, 5, 30, 59, 88}}, {"a", 1 << 20, [5]int{17200, 298193, 579186, 860179, 92596}},
		{"b", 3, [5]int{2, 1, 0, 0, 2}}, {"b", 128, [5]int{68, 125, 54, 111, 40}}, {"key", 100, [5]int{89, 56, 27, 94, 65}}, {"key", 1 << 20, [5]int{292205, 860420, 380059, 948274, 467913}},
		{"\x00", 64, [5]int{17, 34, 51, 4, 21}}, {"\x00", 100, [5]int{41, 22, 3, 84, 65}}, {"\x01", 2, [5]int{0, 1, 0, 1, 0}}, {"\x01", 100, [5]int{82, 1, 20, 39, 58}},
		{strings.Repeat("\xff", 32), 100, [5]int{59, 32, 5, 78, 51}}, {strings.Repeat("x", 1000), 100, [5]int{25, 16, 7, 98, 89}}, {strings.Repeat("x", 1000), 1 << 20, [5]int{87241, 635096, 134375, 682230, 181509}},
	} {
		got, e := bloom.Bits([]byte(x.key), x.m)
		if got != x.want || e != api.OK {
			t.Errorf("Bits(%.9q, %d): %v, %v, want %v", x.key, x.m, got, e, x.want)
		}
	}
}

// P7.2: bits of many keys, among any number that may be; sums are great ones and small ones, odd ones and even ones.
func TestBits(t *testing.T) {
	for _, key := range some() {
		for _, m := range []int{1, 2, 3, 5, 7, 8, 63, 64, 65, 127, 128, 192, 320, 1000, 4099, 65535, 65536, 65537, 524288, 524352, 999999, 1<<20 - 1, 1 << 20} {
			got, e := bloom.Bits(key, m)
			if want := spelt(key, m); got != want || e != api.OK {
				t.Fatalf("Bits(%.9q, %d): %v, %v, want %v", key, m, got, e, want)
			}
		}
	}
	for m := range 3000 {
		key := []byte("hectare")
		if got, _ := bloom.Bits(key, m+1); got != spelt(key, m+1) {
			t.Fatalf("Bits(%q, %d): %v, want %v", key, m+1, got, spelt(key, m+1))
		}
	}
}

// P7.2: m that may not be, whatever the key; beside the error there are no bits.
func TestBitsAreRefused(t *testing.T) {
	for _, m := range []int{0, -1, -2, -64, -(1 << 20), math.MinInt32, math.MinInt, 1<<20 + 1, 1<<20 + 64, 1 << 21, math.MaxInt32, math.MaxUint32 + 1, math.MaxUint32 + 65, math.MaxInt} {
		for _, key := range [][]byte{nil, {}, []byte("a"), []byte("b"), bytes.Repeat([]byte("x"), 70000)} {
			if l, e := bloom.Bits(key, m); l != [5]int{} || e != api.ErrArg {
				t.Errorf("Bits(%.9q, %d): %v, %v", key, m, l, e)
			}
		}
	}
}

// P7.2: the key is not changed, nor what stands behind it.
func TestKeysStayAsTheyAre(t *testing.T) {
	room := []byte("abcdefgh")
	filter := made(t, room[:2])
	bloom.Bits(room[:2], 64)
	bloom.May(filter, room[:2])
	bloom.Add(filter, room[:2])
	bloom.Make(room[:2], room[:0])
	if string(room) != "abcdefgh" {
		t.Errorf("a key is changed: %q", room)
	}
}

// P7.2: May is yes where all five bits are 1, and no where one of them is not, whichever; other bits don't matter.
func TestMayHangsOnEachBit(t *testing.T) {
	for _, key := range some()[:60] {
		for _, n := range []int{8, 16, 24, 40, 1000, 65544, most} {
			none := make([]byte, n)
			if bloom.May(none, key) {
				t.Fatalf("May is yes of %.9q in %d noughts", key, n)
			}
			just := with(none, key)
			if !bloom.May(just, key) || !bloom.May(full(n), key) {
				t.Fatalf("May is no of %.9q in %d bytes", key, n)
			}
			for _, bit := range spelt(key, 8*n) {
				for _, filter := range [][]byte{slices.Clone(just), full(n)} {
					filter[bit/8] &^= 1 << (bit % 8)
					if bloom.May(filter, key) {
						t.Fatalf("May is yes of %.9q in %d bytes without the bit %d", key, n, bit)
					}
				}
			}
		}
	}
}

// P7.2: May of any key in any filter, also of keys that are not there: it is yes just where their bits happen to be 1.
func TestMayOfOthers(t *testing.T) {
	keys := some()
	for _, n := range []int{1, 5, 50, 200} {
		filter := made(t, keys[:n]...)
		yes, no := 0, 0
		for _, key := range keys {
			want := bytes.Equal(with(filter, key), filter)
			if got := bloom.May(filter, key); got != want {
				t.Fatalf("May of %.9q in a filter of %d: %v, want %v", key, n, got, want)
			}
			if want {
				yes++
			} else {
				no++
			}
		}
		if yes < n || no == 0 {
			t.Errorf("in a filter of %d, May is yes of %d, no of %d", n, yes, no)
		}
	}
}

// P7.2: of bytes that are no filter's May is yes, whatever they are.
func TestMayOfBytesThatAreNoFilters(t *testing.T) {
	for _, c := range []byte{0, 1, 0xFF} {
		for _, b := range wrong(c) {
			for _, key := range texts("", "a", "key") {
				if !bloom.May(b, key) {
					t.Fatalf("May(%q) of %d bytes %d is no", key, len(b), c)
				}
			}
		}
	}
	if !bloom.May(nil, nil) {
		t.Error("May of nothing is no")
	}
}

// P7.2: Add makes the key's bits 1, and leaves the others as they are.
func TestAdd(t *testing.T) {
	odd := []byte{0x81, 0, 0xFF, 7, 0, 0x10, 1, 0x80, 2, 0, 0, 0xAA, 0x55, 0, 3, 0xC0}
	filters := [][]byte{make([]byte, 8), full(8), odd, odd[:8], slices.Repeat(odd, 100), make([]byte, 65544), make([]byte, most), full(most)}
	for _, filter := range filters {
		for _, key := range append(some()[:40], nil) {
			got, e := bloom.Add(filter, key)
			if want := with(filter, key); e != api.OK || !bytes.Equal(got, want) {
				t.Fatalf("Add(%.9q) to %d bytes: %v, another filter", key, len(filter), e)
			}
		}
	}
}

// P7.2: Add of bytes that are no filter's is refused.
func TestAddIsRefused(t *testing.T) {
	for _, c := range []byte{0, 1, 0xFF} {
		for _, b := range wrong(c) {
			was := slices.Clone(b)
			if filter, e := bloom.Add(b, []byte("a")); filter != nil || e != api.ErrBytes {
				t.Fatalf("Add to %d bytes %d: %d bytes, %v", len(b), c, len(filter), e)
			}
			if !bytes.Equal(b, was) {
				t.Fatal("what is handed in is changed")
			}
		}
	}
}

// P7.2: Add answers another filter: the one that is handed in stays as it is, also where nothing is added; what stands behind it does, too.
func TestAddIsNewMemory(t *testing.T) {
	room := append(made(t, texts("a", "b")...), "behind"...)
	filter, was := room[:8], slices.Clone(room)
	for _, key := range texts("a", "c", "") {
		more, e := bloom.Add(filter, key)
		if e != api.OK || !bytes.Equal(room, was) {
			t.Fatalf("Add(%q): %v, %q is now %q", key, e, was, room)
		}
		for i := range more {
			more[i] ^= 0xFF
		}
		_ = append(more, "!!!!!!"...)
		if !bytes.Equal(room, was) {
			t.Fatalf("what Add(%q) answers is what was handed in", key)
		}
	}
	other, _ := bloom.Add(filter, []byte("c"))
	want := slices.Clone(other)
	clear(room)
	if !bytes.Equal(other, want) {
		t.Error("what Add answers changes with what was handed in")
	}
}

// P7.2: Count of any bytes, a filter's or not.
func TestCount(t *testing.T) {
	if n := bloom.Count(nil); n != 0 {
		t.Errorf("Count of nothing: %d", n)
	}
	for c := range 256 {
		want := 0
		for bit := range 8 {
			want += c >> bit % 2
		}
		for _, n := range []int{0, 1, 7, 8, 9, 64, most, most + 8, 300000} {
			if got := bloom.Count(bytes.Repeat([]byte{byte(c)}, n)); got != want*n {
				t.Fatalf("Count of %d bytes %d: %d, want %d", n, c, got, want*n)
			}
		}
	}
	if n := bloom.Count([]byte{1, 0x80, 0, 0xF0, 0x0F, 0xFF, 0x55}); n != 22 {
		t.Errorf("Count of some: %d, want 22", n)
	}
	b := []byte{1, 2, 3}
	if bloom.Count(b) != 4 || !bytes.Equal(b, []byte{1, 2, 3}) {
		t.Error("Count changes what is handed in")
	}
}

// P7.2: a key's bits in a filter are five, of a filter of noughts: none of them falls on another one, since the way between them is odd.
func TestCountOfOneKey(t *testing.T) {
	for _, key := range some() {
		for _, n := range []int{8, 16, 24, 72, 65544} {
			filter, e := bloom.Add(make([]byte, n), key)
			if got := bloom.Count(filter); got != 5 || e != api.OK {
				t.Fatalf("Count of %.9q in %d bytes: %d, %v", key, n, got, e)
			}
		}
	}
}
