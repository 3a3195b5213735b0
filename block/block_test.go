package block_test

import (
	"slices"
	"strings"
	"testing"

	"hectare/api"
	"hectare/block"
	"hectare/ikey"
)

// The chapter's examples.
func TestExamples(t *testing.T) {
	l := list(del("ab", 5), del("ac", 3))
	blockIs(t, l, "\x00\x02\x61\x62\x05\x02"+"\x01\x01\x63\x03\x02"+"\x00\x00\x00\x00"+"\x00\x00\x00\x01")
	isRefused(t)
	isRefused(t, del("b", 1), del("a", 1))
	isNone(t, "")
	isNone(t, "\x00\x00\x00\x00")
	b := made(t, l...)
	if e, no := block.Get(b, []byte("ac"), 9); !ikey.Same(e, del("ac", 3)) || no != api.OK {
		t.Errorf("Get(ac, 9): %s, %v", tell(e), no)
	}
	if e, no := block.Get(b, []byte("ac"), 2); !zero(e) || no != api.ErrNone {
		t.Errorf("Get(ac, 2): %s, %v", tell(e), no)
	}
	n := 0
	for range block.From(b, []byte("ab\x00")) {
		n++
	}
	if n != 1 {
		t.Errorf("From(ab 0): %d", n)
	}
}

// isRefused says that these are no block's entries.
func isRefused(t *testing.T, l ...api.Entry) {
	t.Helper()
	if b, no := block.Write(l...); b != nil || no != api.ErrArg {
		t.Errorf("Write of %s: %d bytes, %v", tellAll(l), len(b), no)
	}
	if n := block.Size(l...); n != 0 {
		t.Errorf("Size of %s: %d", tellAll(l), n)
	}
}

// P8.1: blocks to the byte.
func TestWrite(t *testing.T) {
	none := "\x00\x00\x00\x00\x00\x00\x00\x01"
	for _, x := range []struct {
		l    []api.Entry
		want string
	}{
		{list(del("a", 5)), "\x00\x01a\x05\x02" + none}, {list(put("a", 5, "")), "\x00\x01a\x05\x01\x00" + none}, {list(put("a", 5, "xy")), "\x00\x01a\x05\x01\x02xy" + none},
		{list(put("a", 300, long(130))), "\x00\x01a\xac\x02\x01\x82\x01" + long(130) + none}, {list(del("a", api.MaxNumber)), "\x00\x01a\xff\xff\xff\xff\x07\x02" + none},
		{list(put("a", 7, "v"), del("a", 5), put("a", 3, "w")), "\x00\x01a\x07\x01\x01v" + "\x01\x00\x05\x02" + "\x01\x00\x03\x01\x01w" + none}, // the whole key is shared
		{list(del("ab", 1), del("abc", 1), del("ac", 1)), "\x00\x02ab\x01\x02" + "\x02\x01c\x01\x02" + "\x01\x01c\x01\x02" + none},
		{list(del("abc", 1), del("b", 1), del("babc", 1)), "\x00\x03abc\x01\x02" + "\x00\x01b\x01\x02" + "\x01\x03abc\x01\x02" + none}, // the end is not shared, nor what another one ahead has
		{list(del("ab", 1), del("b", 1), del("ba", 1), del("bab", 1)), "\x00\x02ab\x01\x02" + "\x00\x01b\x01\x02" + "\x01\x01a\x01\x02" + "\x02\x01b\x01\x02" + none},
		{list(del(long(32), 2), del(long(32), 1)), "\x00\x20" + long(32) + "\x02\x02" + "\x20\x00\x01\x02" + none}, {list(del(long(31), 2), del(long(32), 1)), "\x00\x1f" + long(31) + "\x02\x02" + "\x1f\x01x\x01\x02" + none},
	} {
		blockIs(t, x.l, x.want)
	}
}

// P8.1: the entries 0, 4, 8, .. share nothing, however much there is; all others do.
func TestWriteRestarts(t *testing.T) {
	l := list(del("ka", 9), del("ka", 8), del("ka", 7), del("ka", 6), del("ka", 5), del("ka", 4), del("kb", 9), del("kb", 8), del("kb", 7), del("kba", 7))
	four := "\x00\x02ka\x09\x02" + "\x02\x00\x08\x02" + "\x02\x00\x07\x02" + "\x02\x00\x06\x02"
	five := four + "\x00\x02ka\x05\x02"
	eight := five + "\x02\x00\x04\x02" + "\x01\x01b\x09\x02" + "\x02\x00\x08\x02"
	blockIs(t, l[:4], four+"\x00\x00\x00\x00"+"\x00\x00\x00\x01")
	blockIs(t, l[:5], five+"\x00\x00\x00\x00\x00\x00\x00\x12"+"\x00\x00\x00\x02")
	blockIs(t, l[:8], eight+"\x00\x00\x00\x00\x00\x00\x00\x12"+"\x00\x00\x00\x02")
	blockIs(t, l[:9], eight+"\x00\x02kb\x07\x02"+"\x00\x00\x00\x00\x00\x00\x00\x12\x00\x00\x00\x25"+"\x00\x00\x00\x03")
	blockIs(t, l, eight+"\x00\x02kb\x07\x02"+"\x02\x01a\x07\x02"+"\x00\x00\x00\x00\x00\x00\x00\x12\x00\x00\x00\x25"+"\x00\x00\x00\x03")
}

// P8.1: blocks of all lengths as the chapter's words have them.
func TestWriteAsSpelt(t *testing.T) {
	for _, l := range lists() {
		want, _ := spelt(l)
		blockIs(t, l, want)
	}
}

// P8.1: places that need all of their four bytes.
func TestFarPlaces(t *testing.T) {
	var l []api.Entry
	for i := range 262 {
		l = append(l, put("k", int64(1000-i), long(65536)))
	}
	b := made(t, l...)
	want, at := spelt(l)
	if string(b) != want || at[65] != 65*(65545+3*65544) { // a restart's key has a byte that the three behind it share
		t.Errorf("%d bytes, the last place is %d", len(b), at[65])
	}
	if tail := string(b[len(b)-12:]); tail != four(at[64], at[65], 66) || tail[0] != 1 {
		t.Errorf("the last places are % x", tail)
	}
	got, no := block.Read(b)
	if !same(got, l) || no != api.OK {
		t.Errorf("Read: %d, %v", len(got), no)
	}
}

// P8.1: as many as may be; one more is refused, as entries and as bytes.
func TestMostEntries(t *testing.T) {
	var l []api.Entry
	for i := range 1028 {
		l = append(l, del("key", int64(2000-i)))
	}
	want, _ := spelt(l[:1024])
	blockIs(t, l[:1024], want)
	if !strings.HasSuffix(want, "\x00\x00\x01\x00") {
		t.Errorf("% x", want[len(want)-4:])
	}
	for n := 1025; n <= 1028; n++ {
		isRefused(t, l[:n]...)
		b, _ := spelt(l[:n])
		isNone(t, b)
	}
	isRefused(t, many(5000)...)
	b, _ := spelt(many(5000))
	isNone(t, b)
}

// P8.1: entries that may not be, at any place.
func TestWriteRefusesWhatMayNotBe(t *testing.T) {
	isRefused(t, []api.Entry{}...)
	good := list(del("a", 1), del("b", 1), del("n", 1), del("o", 1), del("p", 1))
	for _, e := range bads() {
		isRefused(t, e)
		for at := range len(good) + 1 {
			isRefused(t, slices.Insert(slices.Clone(good), at, e)...)
		}
		isRefused(t, slices.Insert(many(900), 899, e)...)
	}
}

// P8.1: entries that don't rise, at any place.
func TestWriteRefusesWhatDoesNotRise(t *testing.T) {
	for _, l := range [][]api.Entry{
		list(del("b", 1), del("a", 1)), list(del("a", 1), del("a", 2)), list(del("a", 1), del("a", 1)), list(del("a", 1), put("a", 1, "x")), list(put("a", 1, "x"), put("a", 1, "y")),
		list(del("ab", 1), del("a", 1)), list(del("\x80", 1), del("\x7f", 1)), list(del("a", 2), del("b", 2), del("a", 1)), list(del("a", 2), del("a", 1), del("a", 2)),
	} {
		isRefused(t, l...)
	}
	for at := range 20 {
		l := many(21)
		l[at], l[at+1] = l[at+1], l[at]
		isRefused(t, l...)
		isRefused(t, slices.Insert(many(21), at, many(21)[at])...)
	}
}

// P8.1: how many first bytes both have the same, whoever comes first.
func TestShared(t *testing.T) {
	for _, x := range []struct {
		a, b string
		want int
	}{
		{"", "", 0}, {"", "a", 0}, {"a", "a", 1}, {"a", "b", 0}, {"ab", "ac", 1}, {"ab", "abc", 2}, {"abc", "abd", 2}, {"xbc", "abc", 0}, {"abcd", "abxd", 2}, {"\x00", "\x00\x00", 1}, {"\xff\x7f", "\xff\x80", 1},
		{long(32), long(32), 32}, {long(32), long(33), 32}, {long(70000), long(70000), 70000}, {long(70000) + "a", long(70000) + "b", 70000},
	} {
		a, b := []byte(x.a), []byte(x.b)
		if n, m := block.Shared(a, b), block.Shared(b, a); n != x.want || m != x.want {
			t.Errorf("Shared(%.9q, %.9q): %d, %d, want %d", a, b, n, m, x.want)
		}
		if string(a) != x.a || string(b) != x.b {
			t.Errorf("%.9q, %.9q are changed", x.a, x.b)
		}
	}
	if block.Shared(nil, nil) != 0 || block.Shared(nil, []byte("a")) != 0 || block.Shared([]byte{}, nil) != 0 {
		t.Error("Shared of nil")
	}
}

// P8.1 (and the rules for all layers): bytes and entries are new memory, what is handed in stays as it is.
func TestNewMemory(t *testing.T) {
	room := []byte("abcdacefxxxxxxxx")
	l := list(api.Entry{Key: room[:2], Seq: 5, Kind: api.KindPut, Value: room[2:4]}, api.Entry{Key: room[4:6], Seq: 5, Kind: api.KindPut, Value: room[6:8]})
	b := made(t, l...)
	want := slices.Clone(b)
	clear(b)
	_ = append(b, "!!!!!!!!"...)
	if string(room) != "abcdacefxxxxxxxx" || !slices.Equal(made(t, l...), want) {
		t.Errorf("the bytes are the entries' memory: %q", room)
	}
	given := slices.Clone(want)
	got, _ := block.Read(given)
	clear(given)
	if !same(got, l) {
		t.Errorf("the entries change with the bytes: %s", tellAll(got))
	}
	given = slices.Clone(want)
	for at := range l {
		got, _ = block.Read(given)
		spoil(got[at])
		got[at] = l[at]
		if !slices.Equal(given, want) || !same(got, l) {
			t.Errorf("the entry %d shares memory: %s, % x", at, tellAll(got), given)
		}
	}
	keys, _ := block.Read(made(t, del("abcd", 3), del("abcd", 2), del("abcd", 1)))
	spoil(keys[1])
	if !same([]api.Entry{keys[0], keys[2]}, list(del("abcd", 3), del("abcd", 1))) {
		t.Errorf("keys that are the same share memory: %s", tellAll(keys))
	}
}
