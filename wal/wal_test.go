package wal_test

import (
	"slices"
	"testing"

	"hectare/api"
	"hectare/wal"
)

// The chapter's examples.
func TestExamples(t *testing.T) {
	one, two := batch(1, put("a", 1, "")), batch(2)
	first, second := written(t, one), written(t, two)
	says(t, first+second, []api.Batch{one, two}, len(first+second), true)
	says(t, second+first, []api.Batch{two}, len(second), false)
	says(t, first+first[:len(first)/2], []api.Batch{one}, len(first), true)
	if b, no := wal.Put(batch(0)); b != nil || no != api.ErrArg {
		t.Errorf("Put(0: none): % x, %v", b, no)
	}
	goesOver(t, wal.After([]byte(first+second), 1), two)
}

// P13.1: a batch's bytes, written out: the length, CRC-32C of the length and what follows, the Index, the list as bytes.
func TestPutToTheByte(t *testing.T) {
	for _, x := range []struct {
		b    api.Batch
		want string
	}{
		{batch(1), "\x00\x00\x00\x03\x6f\xff\xe9\x5d\x01\x01\x00"},
		{batch(2), "\x00\x00\x00\x03\x85\xd1\x29\x2e\x02\x01\x00"},
		{batch(1, put("a", 5, "x")), "\x00\x00\x00\x0a\xae\xb8\xe5\xd6\x01\x08\x01\x06\x01a\x05\x01\x01x"},
		{batch(300, del("a", 7), put("a", 5, "x")), "\x00\x00\x00\x10\x0c\x6f\x4f\x22\xac\x02\x0d\x02\x04\x01a\x07\x02\x06\x01a\x05\x01\x01x"},
		{batch(api.MaxNumber, del("b", 1)), "\x00\x00\x00\x0c\x10\x82\xa3\x11\xff\xff\xff\xff\x07\x06\x01\x04\x01b\x01\x02"},
	} {
		if b, no := wal.Put(x.b); string(b) != x.want || no != api.OK {
			t.Errorf("Put(%s): % x, %v; want % x", tell([]api.Batch{x.b}), b, no, x.want)
		}
	}
}

// P13.1: batches at all edges; entries stand in any order, and as often as one likes.
func TestPut(t *testing.T) {
	for _, index := range indexes() {
		written(t, batch(index))
		written(t, batch(index, del("a", 5)))
	}
	for _, e := range goods() {
		written(t, batch(7, e))
		written(t, batch(7, put("z", 3, "v"), e, del("a", 1)))
		written(t, batch(7, e, e, e))
	}
	written(t, batch(7, goods()...))
	for seed := range uint32(300) {
		for _, one := range someLog(chance(seed), 5) {
			written(t, one)
		}
	}
}

// P13.1: as many entries as may be, and one more.
func TestPutOfMany(t *testing.T) {
	for _, n := range []int{127, 128, 300, api.MaxList - 1, api.MaxList} {
		written(t, batch(7, slices.Repeat([]api.Entry{del("a", 5)}, n)...))
	}
	for _, n := range []int{api.MaxList + 1, api.MaxList + 2, 2 * api.MaxList} {
		refuses(t, batch(7, slices.Repeat([]api.Entry{del("a", 5)}, n)...), api.ErrArg)
	}
}

// refuses says that Put refuses a batch so, and that it may be just where it is only too long.
func refuses(t *testing.T, one api.Batch, want api.Errno) {
	t.Helper()
	b, no := wal.Put(one)
	if b != nil || no != want {
		t.Fatalf("Put(%s): %d bytes, %v; want %v", tell([]api.Batch{one}), len(b), no, want)
	}
	if wal.May(one) != (want == api.ErrLong) {
		t.Fatalf("May(%s): %v", tell([]api.Batch{one}), wal.May(one))
	}
}

// P13.1: places that may not be, and entries that may not be, wherever they stand.
func TestPutRefused(t *testing.T) {
	for _, index := range noIndexes() {
		refuses(t, batch(index), api.ErrArg)
		refuses(t, batch(index, put("a", 5, "x")), api.ErrArg)
		refuses(t, batch(index, of("a", 5, 9, "x")), api.ErrArg)
	}
	for _, bad := range bads() {
		refuses(t, batch(7, bad), api.ErrArg)
		for at := range 4 {
			l := []api.Entry{put("a", 5, "x"), del("b", 5), put("c", 5, "")}
			refuses(t, batch(7, slices.Insert(l, at, bad)...), api.ErrArg)
		}
	}
	refuses(t, api.Batch{}, api.ErrArg)
}

// fill is a batch at a place of one byte whose payload has so many bytes, from 100000 on.
func fill(payload int) api.Batch {
	one := batch(7, put("b", 5, long(20000)))
	for payload-len(payloadOf(one)) > 40000 {
		one.Entries = append(one.Entries, put("a", 5, long(40000)))
	}
	one.Entries[0].Value = []byte(long(20000 + payload - len(payloadOf(one)))) // its length stays one of three bytes
	return one
}

// P13.1: up to a frame's bound, and above it.
func TestPutTooLong(t *testing.T) {
	for _, n := range []int{api.MaxPayload - 2, api.MaxPayload - 1, api.MaxPayload} {
		one := fill(n)
		if b := written(t, one); len(b) != 8+n {
			t.Errorf("a payload of %d bytes: %d", n, len(b))
		}
		if !wal.May(one) {
			t.Errorf("a payload of %d bytes: it may not be", n)
		}
	}
	for _, n := range []int{api.MaxPayload + 1, api.MaxPayload + 2, api.MaxPayload + 8, api.MaxPayload + 9, 2 * api.MaxPayload} {
		refuses(t, fill(n), api.ErrLong)
	}
	one := fill(api.MaxPayload) // only the Index makes it longer
	one.Index = 127
	written(t, one)
	one.Index = 128
	refuses(t, one, api.ErrLong)
	refuses(t, batch(7, slices.Repeat([]api.Entry{put("a", 5, long(16))}, 48000)...), api.ErrLong) // keys and values alone are less
	refuses(t, batch(7, slices.Repeat([]api.Entry{put(long(32), api.MaxNumber, "")}, api.MaxList)...), api.ErrLong)
}

// P13.1: the greatest batch that may be is refused soon.
func TestPutOfTheGreatest(t *testing.T) {
	refuses(t, batch(api.MaxNumber, slices.Repeat([]api.Entry{put(long(32), api.MaxNumber, long(api.MaxBlob))}, api.MaxList)...), api.ErrLong)
}

// P13.1: what may not be is told ahead of what is too long.
func TestArgAheadOfLong(t *testing.T) {
	one := fill(api.MaxPayload + 1)
	one.Index = 0
	refuses(t, one, api.ErrArg)
	one.Index = api.MaxNumber + 1
	refuses(t, one, api.ErrArg)
	l := fill(api.MaxPayload + 1).Entries
	for _, bad := range bads() {
		for _, at := range []int{0, 3, len(l)} {
			refuses(t, batch(7, slices.Insert(slices.Clone(l), at, bad)...), api.ErrArg)
		}
	}
	refuses(t, batch(7, slices.Repeat([]api.Entry{put(long(32), 5, "value")}, api.MaxList+1)...), api.ErrArg)
}

// P13.1: what may be, and what may not.
func TestMay(t *testing.T) {
	for _, index := range indexes() {
		if !wal.May(batch(index)) || !wal.May(batch(index, goods()...)) {
			t.Errorf("a batch at %d may not be", index)
		}
	}
	for _, index := range noIndexes() {
		if wal.May(batch(index)) || wal.May(batch(index, goods()...)) {
			t.Errorf("a batch at %d may be", index)
		}
	}
	for _, e := range bads() {
		if wal.May(batch(7, e)) || wal.May(batch(7, append(goods(), e)...)) || wal.May(batch(7, append([]api.Entry{e}, goods()...)...)) {
			t.Errorf("a batch with %v may be", e)
		}
	}
	if !wal.May(api.Batch{Index: 1, Entries: []api.Entry{}}) || !wal.May(batch(1, api.Entry{Key: []byte("a"), Seq: 5, Kind: api.KindDelete, Value: []byte{}})) {
		t.Error("nil and empty lists are not one")
	}
	for n, want := range map[int]bool{api.MaxList - 1: true, api.MaxList: true, api.MaxList + 1: false, 3 * api.MaxList: false} {
		if wal.May(batch(7, slices.Repeat([]api.Entry{del("a", 5)}, n)...)) != want {
			t.Errorf("a batch of %d entries: %v", n, !want)
		}
	}
}

// P13.1: Same is each with itself alone, of those that may be, and of others.
func TestSame(t *testing.T) {
	a, b := put("a", 5, "x"), del("b", 7)
	l := []api.Batch{{}, batch(1), batch(2), batch(-1), batch(1<<32 + 1), batch(1, a), batch(2, a), batch(1, b), batch(1, a, b), batch(1, b, a), batch(1, a, a), batch(1, a, b, a), batch(0, a)}
	for _, e := range append(goods()[1:], bads()...) {
		l = append(l, batch(1, e), batch(1, b, e, b))
	}
	for i, one := range l {
		for j, other := range l {
			if got := wal.Same(one, copied(other)); got != (i == j) {
				t.Errorf("Same(%s): %v", tell([]api.Batch{one, other}), got)
			}
		}
	}
	if !wal.Same(batch(1), api.Batch{Index: 1, Entries: []api.Entry{}}) || !wal.Same(batch(1, del("a", 5)), batch(1, of("a", 5, api.KindDelete, ""))) {
		t.Error("nil and empty lists are not one")
	}
}

// copied is a batch in new memory.
func copied(b api.Batch) api.Batch {
	b.Entries = slices.Clone(b.Entries)
	for i, e := range b.Entries {
		b.Entries[i].Key, b.Entries[i].Value = slices.Clone(e.Key), slices.Clone(e.Value)
	}
	return b
}

// P13.1 (and the rules for all layers): what is handed in stays the caller's, and is not changed; the bytes are new memory.
func TestPutIsNewMemory(t *testing.T) {
	room := []byte("abcdefgh")
	l := []api.Entry{{Key: room[:2], Seq: 5, Kind: api.KindPut, Value: room[2:4]}, {Key: room[4:6], Seq: 5, Kind: api.KindPut, Value: room[:0]}}
	one := batch(7, l[:1]...)
	want := log(one)
	for range 2 {
		b, no := wal.Put(one)
		if string(b) != want || no != api.OK || string(room) != "abcdefgh" || len(l[1].Key) != 2 {
			t.Fatalf("Put: % x, %v, of %q", b, no, room)
		}
		clear(b)
		_ = append(b, "!!!!!!!!"...)
		if !wal.May(one) || !wal.Same(one, one) || string(room) != "abcdefgh" {
			t.Fatalf("the bytes are the caller's memory: %q", room)
		}
	}
	b, _ := wal.Put(one)
	clear(room)
	if string(b) != want {
		t.Errorf("the bytes change with the batch: % x", b)
	}
}
