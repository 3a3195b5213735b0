package skip_test

import (
	"encoding/binary"
	"hash/fnv"
	"iter"
	"math"
	"slices"
	"strconv"
	"strings"
	"testing"

	"hectare/api"
	"hectare/ikey"
	"hectare/skip"
)

// put is an entry that puts a value.
func put(key string, seq int64, value string) api.Entry {
	return api.Entry{Key: []byte(key), Seq: seq, Kind: api.KindPut, Value: []byte(value)}
}

// del is an entry that deletes.
func del(key string, seq int64) api.Entry {
	return api.Entry{Key: []byte(key), Seq: seq, Kind: api.KindDelete}
}

// of is an entry of any kind.
func of(key string, seq int64, kind api.Kind, value string) api.Entry {
	return api.Entry{Key: []byte(key), Seq: seq, Kind: kind, Value: []byte(value)}
}

// long is a text of n letters.
func long(n int) string {
	return strings.Repeat("x", n)
}

// bads are entries that may not be; some are in the place of a 5, or b 3.
func bads() []api.Entry {
	l := []api.Entry{{}, put("", 5, "x"), del("", 5), put(long(33), 5, "x"), del(long(33), 5), put("a", 5, long(65537)), of("a", 5, api.KindDelete, "x"), of("b", 3, api.KindDelete, "\x00")}
	for _, seq := range []int64{0, -1, -5, math.MinInt64, api.MaxNumber + 1, 1<<32 + 5, math.MaxInt64} {
		l = append(l, put("a", seq, "x"), del("a", seq))
	}
	for _, kind := range []api.Kind{0, -1, 3, 1<<32 + 1, math.MinInt, math.MaxInt} {
		l = append(l, of("a", 5, kind, "x"), of("b", 3, kind, ""))
	}
	return l
}

// tell says an entry in short.
func tell(e api.Entry) string {
	return "(" + strconv.QuoteToASCII(string(e.Key[:min(len(e.Key), 40)])) + " " + strconv.FormatInt(e.Seq, 10) + " " + strconv.Itoa(int(e.Kind)) + " " + string(e.Value[:min(len(e.Value), 9)]) + ")"
}

func tellAll(l []api.Entry) string {
	s := ""
	for _, e := range l {
		s += tell(e)
	}
	return s
}

// over gathers what all goes over.
func over(all iter.Seq[api.Entry]) []api.Entry {
	var l []api.Entry
	for e := range all {
		l = append(l, e)
	}
	return l
}

// goesOver says that all goes over just these, each time.
func goesOver(t *testing.T, all iter.Seq[api.Entry], want ...api.Entry) {
	t.Helper()
	for range 2 {
		if got := over(all); !slices.EqualFunc(got, want, ikey.Same) {
			t.Fatalf("goes over %s, want %s", tellAll(got), tellAll(want))
		}
	}
}

// made is a list of these entries.
func made(t *testing.T, l ...api.Entry) *skip.List {
	t.Helper()
	list := skip.New()
	for _, e := range l {
		if no := list.Put(e); no != api.OK {
			t.Fatalf("Put %s: %v", tell(e), no)
		}
	}
	return list
}

// nils are lists that are as nil.
func nils() []*skip.List {
	return []*skip.List{nil, {}}
}

// holds says that the list has just these entries, which rise: in order, each in the levels below its height, and as many bytes as these have.
func holds(t *testing.T, list *skip.List, want ...api.Entry) {
	t.Helper()
	size := 0
	for _, e := range want {
		size += ikey.Size(e)
	}
	if list.Len() != len(want) || list.Bytes() != size {
		t.Fatalf("Len, Bytes: %d, %d, want %d, %d", list.Len(), list.Bytes(), len(want), size)
	}
	if got := over(list.From(nil)); !slices.EqualFunc(got, want, ikey.Same) {
		t.Fatalf("From: %s, want %s", tellAll(got), tellAll(want))
	}
	for n := range 8 {
		var there []api.Entry
		for _, e := range want {
			if height(e.Key, e.Seq) > n {
				there = append(there, e)
			}
		}
		if got := over(list.Level(n)); !slices.EqualFunc(got, there, ikey.Same) {
			t.Fatalf("Level(%d): %s, want %s", n, tellAll(got), tellAll(there))
		}
	}
}

// height is a tower's height as the chapter's words have it: its sum is FNV-1a's.
func height(key []byte, seq int64) int {
	sum := fnv.New32a()
	sum.Write(key)
	sum.Write(binary.BigEndian.AppendUint64(nil, uint64(seq)))
	high := 1
	for two := sum.Sum32(); two%4 == 0 && high < 8; two /= 4 {
		high++
	}
	return high
}

// The chapter's examples.
func TestExamples(t *testing.T) {
	l := skip.New()
	for _, x := range []struct {
		seq  int64
		want api.Errno
	}{{5, api.OK}, {7, api.OK}, {5, api.ErrThere}} {
		if got := l.Put(put("a", x.seq, "")); got != x.want {
			t.Errorf("Put a %d: %v, want %v", x.seq, got, x.want)
		}
	}
	if e, no := l.Get([]byte("a"), 6); !ikey.Same(e, put("a", 5, "")) || no != api.OK {
		t.Errorf("Get a 6: %s, %v", tell(e), no)
	}
	if e, no := l.Get([]byte("a"), 4); !ikey.Same(e, api.Entry{}) || no != api.ErrNone {
		t.Errorf("Get a 4: %s, %v", tell(e), no)
	}
	if no := l.Put(put("b", 1, "")); no != api.OK {
		t.Errorf("Put b 1: %v", no)
	}
	goesOver(t, l.From([]byte("a\x00")), put("b", 1, ""))
	if l.Len() != 3 || l.Bytes() != 15 {
		t.Errorf("Len, Bytes: %d, %d", l.Len(), l.Bytes())
	}
	if a, b := skip.Height([]byte("a"), 5), skip.Height(nil, 1); a != 1 || b != 1 {
		t.Errorf("Height: %d, %d", a, b)
	}
}

// P6.1: New has no entries, and is none of nil.
func TestNew(t *testing.T) {
	l := skip.New()
	holds(t, l)
	if e, no := l.Get([]byte("a"), 5); no != api.ErrNone || !ikey.Same(e, api.Entry{}) {
		t.Errorf("Get: %s, %v", tell(e), no)
	}
	other := skip.New()
	if l.Put(put("a", 5, "")) != api.OK || other.Len() != 0 {
		t.Error("two new lists are one")
	}
}

// P6.1: heights that were worked out by hand of the chapter's rule: each there is, odd runs of bits, sums of 0, any key, any number.
func TestHeight(t *testing.T) {
	for _, x := range []struct {
		key  string
		seq  int64
		want int
	}{
		{"a", 1, 1}, {"a", 2, 1}, {"a", 3, 1}, {"a", 8, 2}, {"a", 12, 2}, {"a", 16, 2}, {"a", 4, 3}, {"a", 20, 3}, {"a", 52, 3}, {"a", 100, 4}, {"a", 164, 4}, {"a", 228, 4},
		{"a", 36, 5}, {"a", 439, 5}, {"a", 586, 5}, {"a", 1937, 6}, {"a", 2738, 6}, {"a", 3539, 6}, {"a", 8324, 7}, {"a", 11974, 7}, {"a", 14914, 7},
		{"a", 37626, 8}, {"a", 63855, 8}, {"a", 78122, 8}, {"a", 116917, 8}, {"a", 142932, 8}, {"a", 25469, 8}, {"a", 213388, 8}, {"a", 1595428, 8}, {"\xcc\x24\x31\xc4", 0, 8},
		{"", 0, 1}, {"", -1, 1}, {"a", 0, 2}, {"a", -1, 2}, {"a", math.MaxInt64, 2}, {"a", math.MinInt64, 2}, {strings.Repeat("\xff", 32), api.MaxNumber, 1}, {long(70000), 5, 1},
	} {
		if got := skip.Height([]byte(x.key), x.seq); got != x.want {
			t.Errorf("Height(%.9q, %d): %d, want %d", x.key, x.seq, got, x.want)
		}
	}
}

// P6.1: heights of many keys and numbers, each byte of which counts, held against another sum.
func TestManyHeights(t *testing.T) {
	seen := map[int]int{}
	for n := range int64(60000) {
		key := binary.BigEndian.AppendUint64([]byte("k"), uint64(n*2654435761))[:n%10]
		for _, seq := range []int64{n, n << 31, -n, n * 0x9E3779B97F4A7C1 << 7, math.MaxInt64 - n} {
			got := skip.Height(key, seq)
			if want := height(key, seq); got != want {
				t.Fatalf("Height(%q, %d): %d, want %d", key, seq, got, want)
			}
			seen[got]++
		}
	}
	for high := 1; high <= api.MaxHeight; high++ {
		if seen[high] == 0 {
			t.Errorf("no tower of the height %d", high)
		}
	}
}

// P6.1: entries at all edges are put, each to its place.
func TestPut(t *testing.T) {
	want := []api.Entry{
		put("\x00", 5, "x"), put("\x00\x00", 5, ""), put("a", api.MaxNumber, "y"), del("a", 7), put("a", 5, "x"), put("a", 1, long(65536)), put("a\x00", 5, "z"),
		put("b", 9, ""), del("b", 8), del(long(31), 5), put(long(32), 6, "w"), del(long(32), 5), put("\xff", 5, "\x00"), put(strings.Repeat("\xff", 32), 1, "x"),
	}
	holds(t, made(t, want...), want...)
	back := slices.Clone(want)
	slices.Reverse(back)
	holds(t, made(t, back...), want...)
	if no := made(t, want...).Put(api.Entry{Key: []byte("n"), Seq: 1, Kind: api.KindDelete, Value: []byte{}}); no != api.OK {
		t.Errorf("nil and empty values are not one: %v", no)
	}
}

// P6.1: which error is told, and that nothing is changed then.
func TestPutIsRefused(t *testing.T) {
	want := []api.Entry{put("a", 5, "x"), del("b", 3), put("c", 9, "")}
	l := made(t, want...)
	for _, e := range bads() {
		if no := l.Put(e); no != api.ErrArg {
			t.Errorf("Put %s: %v", tell(e), no)
		}
		holds(t, l, want...)
	}
	for _, e := range []api.Entry{put("a", 5, "x"), put("a", 5, "y"), put("a", 5, ""), del("a", 5), del("b", 3), put("b", 3, "x"), put("c", 9, ""), del("c", 9)} {
		if no := l.Put(e); no != api.ErrThere {
			t.Errorf("Put %s: %v", tell(e), no)
		}
		holds(t, l, want...)
	}
	for _, none := range nils() {
		for _, e := range append(bads(), want...) {
			if no := none.Put(e); no != api.ErrNil {
				t.Errorf("Put %s to nil: %v", tell(e), no)
			}
		}
		if none.Len() != 0 || none.Bytes() != 0 {
			t.Error("an entry was put to nil")
		}
	}
}

// P6.1: what was put stays as it was, whatever becomes of what was handed in, which is not changed.
func TestPutIsNewMemory(t *testing.T) {
	room := []byte("abcdefgh")
	l := made(t, api.Entry{Key: room[:2], Seq: 5, Kind: api.KindPut, Value: room[2:4]}, api.Entry{Key: room[4:5], Seq: 5, Kind: api.KindDelete, Value: room[5:5]})
	if string(room) != "abcdefgh" {
		t.Errorf("what was handed in is changed: %q", room)
	}
	clear(room)
	holds(t, l, put("ab", 5, "cd"), del("e", 5))
}
