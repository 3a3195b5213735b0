package bloom_test

import (
	"bytes"
	"encoding/hex"
	"hash/crc32"
	"math"
	"slices"
	"strconv"
	"strings"
	"testing"

	"hectare/api"
	"hectare/bloom"
)

// most is how many bytes a filter has at most.
const most = 131072

// texts are keys as lists of bytes.
func texts(l ...string) [][]byte {
	var keys [][]byte
	for _, s := range l {
		keys = append(keys, []byte(s))
	}
	return keys
}

// many are n keys, no two of them the same.
func many(n int) [][]byte {
	var keys [][]byte
	for i := range n {
		keys = append(keys, strconv.AppendInt([]byte("k"), int64(i)*2654435761, 36))
	}
	return keys
}

// some are keys of all kinds: none, short, long, and such as the second sum's byte ends.
func some() [][]byte {
	keys := texts("", "a", "b", "a\x01", "a\x00", "\x01", "\x01\x01", "key", strings.Repeat("\xff", 32), strings.Repeat("x", 1000), strings.Repeat("y", 70000))
	for c := range 256 {
		keys = append(keys, []byte{byte(c)})
	}
	return append(keys, many(300)...)
}

// sum is what the library says of the bytes' sum.
func sum(b []byte) uint64 {
	return uint64(crc32.Checksum(b, crc32.MakeTable(crc32.Castagnoli)))
}

// spelt are a key's bits among m as the chapter's words have it.
func spelt(key []byte, m int) [5]int {
	a, b := sum(key), sum(append(slices.Clone(key), 1))
	if b%2 == 0 {
		b++
	}
	var l [5]int
	for i := range l {
		l[i] = int((a + uint64(i)*b) % (1 << 32) % uint64(m))
	}
	return l
}

// speltSize is how many bytes a filter of n keys has, as the chapter's words have it.
func speltSize(n int) int {
	m := 8 * (n + 1)
	for m%64 != 0 {
		m++
	}
	return min(m, api.MaxBits) / 8
}

// with are the filter's bytes when the keys' bits are 1, too, as the chapter's words have it.
func with(filter []byte, keys ...[]byte) []byte {
	is := make([]bool, 8*len(filter))
	for i := range is {
		is[i] = filter[i/8]>>(i%8)%2 == 1
	}
	for _, key := range keys {
		for _, bit := range spelt(key, len(is)) {
			is[bit] = true
		}
	}
	b := make([]byte, len(filter))
	for i, one := range is {
		if one {
			b[i/8] += 1 << (i % 8)
		}
	}
	return b
}

// filterOf is a filter of these keys as the chapter's words have it.
func filterOf(keys ...[]byte) []byte {
	return with(make([]byte, speltSize(len(keys))), keys...)
}

// made is the filter of these keys.
func made(t *testing.T, keys ...[]byte) []byte {
	t.Helper()
	filter, e := bloom.Make(keys...)
	if e != api.OK || filter == nil {
		t.Fatalf("Make of %d keys: %v, %v", len(keys), filter, e)
	}
	return filter
}

// wrong are bytes that are no filter's, each byte of which is c.
func wrong(c byte) [][]byte {
	l := [][]byte{nil, {}}
	for n := range 200 {
		if n%8 != 0 {
			l = append(l, bytes.Repeat([]byte{c}, n))
		}
	}
	for _, n := range []int{65543, 65545, most - 1, most + 1, most + 7, most + 8, most + 16, 2 * most, 1 << 20, 1<<20 + 8} {
		l = append(l, bytes.Repeat([]byte{c}, n))
	}
	return l
}

// The chapter's examples.
func TestExamples(t *testing.T) {
	if n := len(made(t)); n != 8 {
		t.Errorf("Make(): %d bytes", n)
	}
	a := []byte("a")
	filter := made(t, a)
	if n := bloom.Count(filter); len(filter) != 8 || n < 1 || n > 5 {
		t.Errorf("Make(a): %d bytes, Count: %d", len(filter), n)
	}
	if !bloom.May(filter, a) || !bloom.May(nil, a) {
		t.Error("May is no")
	}
	if e := bloom.Check(nil); e != api.ErrBytes {
		t.Errorf("Check of no bytes: %v", e)
	}
	if e := bloom.Check(make([]byte, 9)); e != api.ErrBytes {
		t.Errorf("Check of 9 bytes: %v", e)
	}
	if l, e := bloom.Bits(a, 0); l != [5]int{} || e != api.ErrArg {
		t.Errorf("Bits(a, 0): %v, %v", l, e)
	}
	if bloom.Size(7) != 8 || bloom.Size(8) != 16 || bloom.Size(-1) != 0 {
		t.Errorf("Size of 7, 8, -1: %d, %d, %d", bloom.Size(7), bloom.Size(8), bloom.Size(-1))
	}
}

// P7.1: filters that were worked out apart, to the byte.
func TestFiltersThatAreKnown(t *testing.T) {
	for _, x := range []struct {
		keys [][]byte
		want string
	}{
		{nil, "0000000000000000"},
		{texts(""), "0110080040000002"},
		{texts("a"), "00000a0000001500"},
		{texts("a", "b"), "10000a0000815520"},
		{texts("b", "a"), "10000a0000815520"},
		{texts("a", "a"), "00000a0000001500"},
		{texts("a", "a", "a", "a", "a", "a", "a", "a"), "00000800000011000000020000000400"},
		{texts("a", "b", "c", "d", "e", "f", "g"), "9d244a09789bd560"},
		{texts("a", "b", "c", "d", "e", "f", "g", "h"), "08044a007893d1019522020d20880470"},
	} {
		if got := hex.EncodeToString(made(t, x.keys...)); got != x.want {
			t.Errorf("Make of %q: %s, want %s", x.keys, got, x.want)
		}
	}
}

// P7.1: just the bits of all keys are 1, of any number of keys.
func TestMake(t *testing.T) {
	keys := some()
	for n := range 100 {
		for _, l := range [][][]byte{keys[:n], keys[n : n+1], keys[len(keys)-n:]} {
			if got := made(t, l...); !bytes.Equal(got, filterOf(l...)) {
				t.Fatalf("Make of %d keys: % x, want % x", len(l), got, filterOf(l...))
			}
		}
	}
	for _, n := range []int{200, 500, 511, 512, len(keys)} {
		if got := made(t, keys[:n]...); !bytes.Equal(got, filterOf(keys[:n]...)) {
			t.Errorf("Make of %d keys is another filter", n)
		}
	}
}

// P7.1: each key that is handed in counts, also one that is none, or that was there already.
func TestEachKeyCounts(t *testing.T) {
	for n := range 70 {
		for _, key := range [][]byte{nil, {}, []byte("a")} {
			l := slices.Repeat([][]byte{key}, n)
			if got := made(t, l...); len(got) != speltSize(n) || !bytes.Equal(got, filterOf(l...)) {
				t.Fatalf("Make of %d times %q: % x, want % x", n, key, got, filterOf(l...))
			}
		}
	}
}

// P7.1: up to 65536 keys, and no more, whatever these are.
func TestMakeOfTooMany(t *testing.T) {
	keys := many(65538)
	for _, n := range []int{65535, 65536} {
		filter := made(t, keys[:n]...)
		if !bytes.Equal(filter, filterOf(keys[:n]...)) {
			t.Errorf("Make of %d keys is another filter", n)
		}
		if e := bloom.Check(filter); e != api.OK {
			t.Errorf("Check of a filter of %d keys: %v", n, e)
		}
	}
	for _, l := range [][][]byte{keys[:65537], keys, make([][]byte, 65537), make([][]byte, 1<<20)} {
		if filter, e := bloom.Make(l...); filter != nil || e != api.ErrArg {
			t.Errorf("Make of %d keys: %d bytes, %v", len(l), len(filter), e)
		}
	}
}

// P7.1: keys are not changed, and not kept: a filter stays as it is, whatever becomes of them.
func TestMakeKeepsKeysAsTheyAre(t *testing.T) {
	room := []byte("abcdefgh")
	keys := [][]byte{room[:1], room[1:3], room[3:3], nil, room[3:8]}
	filter := made(t, keys...)
	if string(room) != "abcdefgh" || keys[3] != nil {
		t.Errorf("keys are changed: %q, %q", room, keys)
	}
	want := filterOf(texts("a", "bc", "", "", "defgh")...)
	clear(room)
	if !bytes.Equal(filter, want) {
		t.Errorf("Make: % x, want % x", filter, want)
	}
	clear(filter)
	if again := made(t, texts("a", "bc", "", "", "defgh")...); !bytes.Equal(again, want) {
		t.Errorf("Make again: % x, want % x", again, want)
	}
}

// P7.1: Size of all numbers that may be, and of others.
func TestSize(t *testing.T) {
	for _, x := range []struct{ keys, want int }{
		{0, 8}, {1, 8}, {6, 8}, {7, 8}, {8, 16}, {15, 16}, {16, 24}, {63, 64}, {64, 72}, {1000, 1008}, {4096, 4104}, {65534, 65536}, {65535, 65536}, {65536, 65544},
	} {
		if got := bloom.Size(x.keys); got != x.want {
			t.Errorf("Size(%d): %d, want %d", x.keys, got, x.want)
		}
	}
	for n := range 65537 {
		if got := bloom.Size(n); got != speltSize(n) {
			t.Fatalf("Size(%d): %d, want %d", n, got, speltSize(n))
		}
		if e := bloom.Check(make([]byte, bloom.Size(n))); e != api.OK {
			t.Fatalf("Check of a filter of %d keys: %v", n, e)
		}
	}
	for _, n := range []int{-1, -2, -7, -8, -9, -65536, math.MinInt32, math.MinInt, 65537, 65538, 65544, 131071, 1 << 20, math.MaxInt32, math.MaxInt - 7, math.MaxInt} {
		if got := bloom.Size(n); got != 0 {
			t.Errorf("Size(%d): %d", n, got)
		}
	}
}

// P7.1: Check hangs on how many bytes there are, and on nothing else of them.
func TestCheck(t *testing.T) {
	for _, c := range []byte{0, 1, 0xFF} {
		for n := 8; n < 400; n += 8 {
			if e := bloom.Check(bytes.Repeat([]byte{c}, n)); e != api.OK {
				t.Fatalf("Check of %d bytes %d: %v", n, c, e)
			}
		}
		for _, n := range []int{65536, 65544, 65552, 100000, most - 8, most} {
			if e := bloom.Check(bytes.Repeat([]byte{c}, n)); e != api.OK {
				t.Errorf("Check of %d bytes %d: %v", n, c, e)
			}
		}
		for _, b := range wrong(c) {
			if e := bloom.Check(b); e != api.ErrBytes {
				t.Fatalf("Check of %d bytes %d: %v", len(b), c, e)
			}
			if b != nil && !bytes.Equal(b, bytes.Repeat([]byte{c}, len(b))) {
				t.Fatal("Check changes what is handed in")
			}
		}
	}
}

// P7.1: what a filter is goes by the bytes there are, not by the room behind them.
func TestCheckMindsNoRoom(t *testing.T) {
	room := make([]byte, 2*most)
	for _, n := range []int{0, 7, 8, 9, 16, most, most + 8} {
		want := bloom.Check(make([]byte, n))
		if got := bloom.Check(room[:n]); got != want {
			t.Errorf("Check of %d bytes with room: %v, want %v", n, got, want)
		}
	}
}
