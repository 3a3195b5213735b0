package table_test

import (
	"slices"
	"strings"
	"testing"

	"hectare/api"
	"hectare/ikey"
	"hectare/table"
)

// The chapter's examples.
func TestExamples(t *testing.T) {
	e := func(key string, seq int64) api.Entry { return put(key, seq, "v") }
	isRefused(t)
	isRefused(t, e("b", 1), e("a", 1))
	isNone(t, "")
	at := opened(t, e("a", 5), e("a", 3), e("b", 9))
	if got, no := at.Get([]byte("a"), 4); !ikey.Same(got, e("a", 3)) || no != api.OK {
		t.Errorf("Get(a, 4): %s, %v", tell(got), no)
	}
	if got, no := at.Get([]byte("b"), 8); !zero(got) || no != api.ErrNone {
		t.Errorf("Get(b, 8): %s, %v", tell(got), no)
	}
	if at.Len() != 3 || at.Blocks() != 1 {
		t.Errorf("Len %d, Blocks %d", at.Len(), at.Blocks())
	}
	clipped := at.Clip([]byte("a\x00"), nil, false)
	if got, no := clipped.Get([]byte("a"), 9); clipped.Len() != 1 || !zero(got) || no != api.ErrNone {
		t.Errorf("Clip: Len %d, Get(a, 9): %s, %v", clipped.Len(), tell(got), no)
	}
	if got, is := clipped.First(); !is || !ikey.Same(got, e("b", 9)) {
		t.Errorf("Clip: First: %s, %v", tell(got), is)
	}
	if n := clipped.Clip([]byte("c"), nil, false).Len(); n != 0 {
		t.Errorf("Clip of Clip: Len %d", n)
	}
}

// P9.1: a table to the byte.
func TestWrite(t *testing.T) {
	block := "\x00\x01a\x05\x01\x01v" + "\x00\x00\x00\x00" + "\x00\x00\x00\x01"
	index := "\x01" + "\x01a\x05\x00\x0f"
	filter := "\x00\x00\x0a\x00\x00\x00\x15\x00" // 17, 19, 48, 50 and 52 of 64
	ahead := block + index + filter
	foot := "\x00\x00\x00\x0f\x00\x00\x00\x06" + "\x00\x00\x00\x15\x00\x00\x00\x08" + "\x00\x00\x00\x01"
	is(t, list(put("a", 5, "v")), ahead+foot+"\x76\xd2\x9c\xc1"+"\x7e\x95\xa8\x5a") // worked out apart
}

// P9.1: a table of two blocks to the byte; a number of two bytes in the index.
func TestWriteTwoBlocks(t *testing.T) {
	first := "\x00\x01a\x07\x01\xea\x03" + long(490) + "\x01\x00\x05\x02" + "\x00\x00\x00\x00" + "\x00\x00\x00\x01"
	second := "\x00\x01a\x03\x02" + "\x00\x00\x00\x00" + "\x00\x00\x00\x01"
	index := "\x02" + "\x01a\x05\x00\xfd\x03" + "\x01a\x03\xfd\x03\x0d"
	p := parts{blocks: []string{first, second}, index: []string{index[1:7], index[7:]}, filter: filterOf(map[string]int{"a": 1}), count: 3}
	want := p.bytes()
	if len(first) != 509 || !strings.HasPrefix(want, first+second+index) {
		t.Fatalf("% x", want)
	}
	is(t, list(put("a", 7, long(490)), del("a", 5), del("a", 3)), want)
}

// P9.1: an entry goes into a block up to its last byte; one byte more, and it has a new one.
func TestBlocksAreFilled(t *testing.T) {
	for room, want := range map[int]int{488: 2, 489: 2, 490: 2, 491: 2, 492: 2, 493: 2, 494: 3, 496: 3, 497: 3, 498: 3} {
		l := list(put("a", 2, long(room)), del("a", 1), put("b", 1, long(510)))
		if got := opened(t, l...).Blocks(); got != want {
			t.Errorf("a value of %d: %d blocks, want %d", room, got, want)
		}
		is(t, l, spelt(t, l))
	}
	for n := range 12 { // at each place among the restarts
		for size := range 70 {
			l := versions("key", 3+n, 512/(3+n)-size/6)
			l[0].Value = []byte(long(size % 35))
			is(t, l, spelt(t, l))
		}
	}
}

// P9.1: a block takes one entry, however long that is; what is behind it has a new one.
func TestLongEntriesStandAlone(t *testing.T) {
	for _, size := range []int{496, 497, 498, 499, 500, 512, 600, 65536} {
		l := list(put("a", 5, ""), put("b", 5, long(size)), put("c", 5, long(size)), put("d", 5, ""), put("e", 5, ""))
		is(t, l, spelt(t, l))
		is(t, l[1:], spelt(t, l[1:]))
		is(t, l[1:2], spelt(t, l[1:2]))
	}
	if n := opened(t, put("a", 5, ""), put("b", 5, long(600)), put("c", 5, ""), put("d", 5, "")).Blocks(); n != 3 {
		t.Errorf("%d blocks", n)
	}
}

// P9.1: tables of all lengths as the chapter's words have them.
func TestWriteAsSpelt(t *testing.T) {
	for _, l := range lists() {
		is(t, l, spelt(t, l))
	}
}

// P9.1: each key counts once in the filter, in whatever blocks its entries stand.
func TestFilterHasEachKeyOnce(t *testing.T) {
	for n, keys := range map[int]int{1: 1, 300: 1, 301: 2, 4000: 14} {
		var l []api.Entry
		for k := range keys {
			l = append(l, versions("key"+string(rune('a'+k)), min(n-300*k, 300), 5)...)
		}
		b := string(written(t, l...))
		foot := b[len(b)-28:]
		if want := (8*(keys+1) + 63) / 64 * 8; foot[12:16] != four(want) {
			t.Errorf("%d entries of %d keys: a filter of % x bytes, want %d", n, keys, foot[12:16], want)
		}
		is(t, l, spelt(t, l))
	}
}

// P9.1: places that need all of their four bytes.
func TestFarPlaces(t *testing.T) {
	l := versions("k", 300, 65536)
	want := spelt(t, l)
	if len(want) < 1<<24 || want[len(want)-28] != 1 {
		t.Fatalf("%d bytes", len(want))
	}
	is(t, l, want)
}

// P9.1: as many as may be; one more is refused, as entries and as bytes.
func TestMostEntries(t *testing.T) {
	l := many(4100)
	is(t, l[:4096], spelt(t, l[:4096]))
	for n := 4097; n <= 4100; n++ {
		isRefused(t, l[:n]...)
		isNone(t, spelt(t, l[:n]))
	}
	big := versions("k", 4097, 600)
	is(t, big[1:], spelt(t, big[1:]))
	isRefused(t, big...)
	isNone(t, spelt(t, big))
	isRefused(t, versions("k", 20000, 0)...)
	isNone(t, spelt(t, versions("k", 20000, 0)))
}

// P9.1: entries that may not be, at any place.
func TestWriteRefusesWhatMayNotBe(t *testing.T) {
	isRefused(t, []api.Entry{}...)
	good := list(del("a", 1), put("b", 1, long(600)), del("n", 1), del("o", 1), del("p", 1))
	for _, e := range bads() {
		isRefused(t, e)
		for at := range len(good) + 1 {
			isRefused(t, slices.Insert(slices.Clone(good), at, e)...)
		}
		isRefused(t, slices.Insert(many(900), 899, e)...)
	}
}

// P9.1: entries that don't rise, at any place, also where a block ends.
func TestWriteRefusesWhatDoesNotRise(t *testing.T) {
	for _, l := range [][]api.Entry{
		list(del("b", 1), del("a", 1)), list(del("a", 1), del("a", 2)), list(del("a", 1), del("a", 1)), list(del("a", 1), put("a", 1, "x")), list(put("a", 1, "x"), put("a", 1, "y")),
		list(del("ab", 1), del("a", 1)), list(del("\x80", 1), del("\x7f", 1)), list(del("a", 2), del("b", 2), del("a", 1)), list(del("a", 2), del("a", 1), del("a", 2)),
		list(put("b", 1, long(600)), put("a", 1, long(600))), list(put("a", 1, long(600)), put("a", 1, long(600))), list(put("a", 1, long(600)), put("a", 2, long(600))),
	} {
		isRefused(t, l...)
	}
	for at := range 99 {
		l := many(100)
		l[at], l[at+1] = l[at+1], l[at]
		isRefused(t, l...)
		isRefused(t, slices.Insert(many(100), at, many(100)[at])...)
	}
}

// P9.1 (and the rules for all layers): the bytes are new memory, what is handed in stays as it is.
func TestWriteIsNewMemory(t *testing.T) {
	room := []byte("abcdacefxxxxxxxx")
	l := list(api.Entry{Key: room[:2], Seq: 5, Kind: api.KindPut, Value: room[2:4]}, api.Entry{Key: room[4:6], Seq: 5, Kind: api.KindPut, Value: room[6:8]})
	b := written(t, l...)
	want := string(b)
	clear(b)
	_ = append(b, "!!!!!!!!"...)
	if string(room) != "abcdacefxxxxxxxx" || string(written(t, l...)) != want {
		t.Errorf("the bytes are the entries' memory: %q", room)
	}
	at, _ := table.Open([]byte(want))
	if got := over(at.All()); !same(got, list(put("ab", 5, "cd"), put("ac", 5, "ef"))) {
		t.Errorf("%s", tellAll(got))
	}
}
