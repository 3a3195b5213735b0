package ikey_test

import (
	"bytes"
	"math"
	"slices"
	"strconv"
	"strings"
	"testing"

	"hectare/api"
	"hectare/ikey"
	"hectare/wire"
)

func number(n int64) string {
	return strconv.FormatInt(n, 10)
}

// bytesAre says that an entry's bytes are these, and what is read of them is it.
func bytesAre(t *testing.T, e api.Entry, want string) {
	t.Helper()
	b, no := ikey.Bytes(e)
	if string(b) != want || no != api.OK {
		t.Errorf("Bytes of %s: %.40q, %v, want %.40q", tell(e), b, no, want)
	}
	got, no := ikey.Read([]byte(want))
	if !ikey.Same(got, e) || no != api.OK {
		t.Errorf("Read(%.40q): %s, %v, want %s", want, tell(got), no, tell(e))
	}
}

// readsNone says that these are no entry's bytes, nor is a list in which they stand one.
func readsNone(t *testing.T, b string) {
	t.Helper()
	if e, no := ikey.Read([]byte(b)); !zero(e) || no != api.ErrBytes {
		t.Errorf("Read(%.40q): %s, %v", b, tell(e), no)
	}
	good, _ := ikey.Bytes(del("a", 5))
	for _, l := range [][][]byte{{[]byte(b)}, {good, []byte(b)}, {[]byte(b), good}, {good, []byte(b), good}} {
		form, _ := wire.Put(l, wire.Bytes)
		listsNone(t, form)
	}
}

// listsNone says that these are no list's bytes.
func listsNone(t *testing.T, b []byte) {
	t.Helper()
	if l, no := ikey.Lists(b); len(l) != 0 || no != api.ErrBytes {
		t.Errorf("Lists of %d bytes, %.40q: %d entries, %v", len(b), b, len(l), no)
	}
}

func zero(e api.Entry) bool {
	return e.Key == nil && e.Seq == 0 && e.Kind == 0 && e.Value == nil
}

// spelt is an entry's bytes as layer 1's forms have it, of any numbers, also ones that may not be.
func spelt(key string, seq, kind uint64, value ...string) string {
	b := wire.Join(wire.Bytes([]byte(key)), wire.Number(seq), wire.Number(kind))
	for _, v := range value {
		b = append(b, wire.Bytes([]byte(v))...)
	}
	return string(b)
}

// P5.2: entries to the byte, at the edges of each part.
func TestBytes(t *testing.T) {
	for _, x := range []struct {
		e    api.Entry
		want string
	}{
		{put("a", 5, "x"), "\x01a\x05\x01\x01x"}, {put("a", 5, ""), "\x01a\x05\x01\x00"}, {del("a", 5), "\x01a\x05\x02"},
		{del("ab", 127), "\x02ab\x7f\x02"}, {del("ab", 128), "\x02ab\x80\x01\x02"}, {del("ab", 300), "\x02ab\xac\x02\x02"},
		{del("\x00", api.MaxNumber), "\x01\x00\xff\xff\xff\xff\x07\x02"}, {put("\xff\x00", 1, "\x00\xff"), "\x02\xff\x00\x01\x01\x02\x00\xff"},
		{del(long(32), 1), "\x20" + long(32) + "\x01\x02"}, {put("a", 1, long(127)), "\x01a\x01\x01\x7f" + long(127)},
		{put("a", 1, long(300)), "\x01a\x01\x01\xac\x02" + long(300)}, {put("a", 1, long(65536)), "\x01a\x01\x01\x80\x80\x04" + long(65536)},
	} {
		bytesAre(t, x.e, x.want)
	}
	for _, e := range goods() {
		var value []string
		if e.Kind == api.KindPut {
			value = []string{string(e.Value)}
		}
		bytesAre(t, e, spelt(string(e.Key), uint64(e.Seq), uint64(e.Kind), value...))
	}
}

// P5.2: no bytes of what may not be.
func TestBytesRefused(t *testing.T) {
	for _, e := range bads() {
		if b, no := ikey.Bytes(e); b != nil || no != api.ErrArg {
			t.Errorf("Bytes of %s: %.40q, %v", tell(e), b, no)
		}
	}
}

// P5.2: what is spelt as an entry that may not be is none, whatever its numbers are.
func TestReadOfWhatMayNotBe(t *testing.T) {
	for _, seq := range []uint64{0, 1 << 31, 1<<31 + 5, 1 << 32, 1<<32 + 5, 1 << 63, 1<<63 + 5, math.MaxUint64} {
		readsNone(t, spelt("a", seq, 1, "x"))
		readsNone(t, spelt("a", seq, 2))
	}
	for _, kind := range []uint64{0, 3, 4, 127, 128, 129, 130, 257, 258, 1<<16 + 1, 1 << 31, 1<<32 + 1, 1<<32 + 2, 1 << 63, 1<<63 + 1, math.MaxUint64} {
		readsNone(t, spelt("a", 5, kind, "x"))
		readsNone(t, spelt("a", 5, kind, ""))
		readsNone(t, spelt("a", 5, kind))
	}
	for _, key := range []string{"", long(33), long(128), long(65536)} {
		readsNone(t, spelt(key, 5, 1, "x"))
		readsNone(t, spelt(key, 5, 2))
	}
	for _, value := range []string{long(65537), long(70000), long(1 << 20)} {
		readsNone(t, spelt("a", 5, 1, value))
	}
	for _, value := range []string{"", "x", "\x00", long(65536)} {
		readsNone(t, spelt("a", 5, 2, value))
	}
	readsNone(t, spelt("a", 5, 1))
	readsNone(t, spelt("a", 5, 1, "x", ""))
	readsNone(t, spelt("a", 5, 1, "x", "x"))
}

// P5.2: numbers that have another form are none.
func TestReadOfOtherForms(t *testing.T) {
	for _, b := range []string{
		"", "\x00", "\x01", "a", "\x01a", "\x01a\x05", "\x01a\x05\x01", "\x01a\x05\x01\x01",
		"\x81\x00a\x05\x02", "\x01a\x85\x00\x02", "\x01a\x05\x82\x00", "\x01a\x05\x01\x81\x00x", "\x01a\x05\x01\x80\x00", "\x01a\x85\x80\x00\x02",
		"\x01a\x05\x80", "\x01a\x80", "\x80", "\xff\xff\xff\xff\xff\xff\xff\xff\xff\x01", "\xff\xff\xff\xff\xff\xff\xff\xff\xff\x02a\x05\x02",
		"\x01a\x05\x01\xff\xff\xff\xff\xff\xff\xff\xff\xff\x01", "\x02a\x05\x02", "\x00a\x05\x02", "\x01\x05\x02", "a\x05\x02",
	} {
		readsNone(t, b)
	}
	for _, e := range goods() {
		b, _ := ikey.Bytes(e)
		for n := range min(len(b), 200) {
			readsNone(t, string(b[:n]))
		}
		readsNone(t, string(b[:len(b)-1]))
		for _, behind := range []string{"\x00", "\x01", "x", "\xff", string(b)} {
			readsNone(t, string(b)+behind)
		}
	}
}

// P5.2: lists to the byte; entries stand in any order, and as often as one likes.
func TestList(t *testing.T) {
	a, d := "\x06\x01a\x05\x01\x01x", "\x04\x01a\x07\x02"
	for _, x := range []struct {
		l    []api.Entry
		want string
	}{
		{nil, "\x00"}, {[]api.Entry{}, "\x00"}, {[]api.Entry{put("a", 5, "x")}, "\x01" + a}, {[]api.Entry{del("a", 7)}, "\x01" + d},
		{[]api.Entry{del("a", 7), put("a", 5, "x")}, "\x02" + d + a}, {[]api.Entry{put("a", 5, "x"), del("a", 7)}, "\x02" + a + d},
		{slices.Repeat([]api.Entry{del("a", 7)}, 3), "\x03" + d + d + d}, {slices.Repeat([]api.Entry{del("a", 7)}, 300), "\xac\x02" + strings.Repeat(d, 300)},
		{[]api.Entry{put("a", 1, long(300))}, "\x01\xb2\x02\x01a\x01\x01\xac\x02" + long(300)},
	} {
		b, no := ikey.List(x.l...)
		if string(b) != x.want || no != api.OK {
			t.Errorf("List of %d: %.40q, %v, want %.40q", len(x.l), b, no, x.want)
		}
		got, no := ikey.Lists([]byte(x.want))
		if !slices.EqualFunc(got, x.l, ikey.Same) || no != api.OK {
			t.Errorf("Lists of %.40q: %d entries, %v", x.want, len(got), no)
		}
	}
}

// P5.2: one that may not be, at any place, and too many.
func TestListRefused(t *testing.T) {
	for _, bad := range bads() {
		for at := range 3 {
			l := []api.Entry{put("a", 5, "x"), del("b", 5)}
			if b, no := ikey.List(slices.Insert(l, at, bad)...); b != nil || no != api.ErrArg {
				t.Errorf("List with %s at %d: %.40q, %v", tell(bad), at, b, no)
			}
		}
	}
	for _, n := range []int{api.MaxList + 1, api.MaxList + 2, 2 * api.MaxList} {
		if b, no := ikey.List(slices.Repeat([]api.Entry{del("a", 7)}, n)...); b != nil || no != api.ErrArg {
			t.Errorf("List of %d: %d bytes, %v", n, len(b), no)
		}
	}
}

// P5.2: the longest list; one more is no list's bytes.
func TestLongestList(t *testing.T) {
	form := []byte("\x04\x01a\x07\x02")
	b, no := ikey.List(slices.Repeat([]api.Entry{del("a", 7)}, api.MaxList)...)
	if want := append(wire.Number(api.MaxList), bytes.Repeat(form, api.MaxList)...); !bytes.Equal(b, want) || no != api.OK {
		t.Fatalf("List of %d: %d bytes, %v", api.MaxList, len(b), no)
	}
	l, no := ikey.Lists(b)
	if len(l) != api.MaxList || no != api.OK || slices.ContainsFunc(l, func(e api.Entry) bool { return !ikey.Same(e, del("a", 7)) }) {
		t.Errorf("Lists of %d: %d, %v", api.MaxList, len(l), no)
	}
	listsNone(t, append(wire.Number(api.MaxList+1), bytes.Repeat(form, api.MaxList+1)...))
}

// P5.2: bytes that are no list's.
func TestListsRefused(t *testing.T) {
	for _, b := range []string{
		"", "\x01", "\x80", "\x80\x00", "\x00\x00", "\x00x", "\x01\x00", "\x01\x04\x01a\x07", "\x02\x04\x01a\x07\x02", "\x01\x04\x01a\x07\x02\x00", "\x01\x04\x01a\x07\x02\x04\x01a\x07\x02",
		"\x81\x00\x04\x01a\x07\x02", "\x01\x84\x00\x01a\x07\x02", "\x01\x05\x01a\x07\x02", "\x01\x03\x01a\x07\x02", "\x01\x05\x01a\x07\x02\x00", "\x01\x01a\x07\x02", "\x01\x04\x01a\x07\x03",
		"\xff\xff\xff\xff\xff\xff\xff\xff\xff\x01", "\xff\xff\xff\xff\x07", "\x01\xff\xff\xff\xff\xff\xff\xff\xff\xff\x01", "\x01\xff\xff\xff\xff\xff\xff\xff\xff\x7f\x01a\x07\x02",
	} {
		listsNone(t, []byte(b))
	}
	b, _ := ikey.List(put("a", 5, "x"), del("b", 300), put("b", 7, long(130)))
	for n := range b {
		listsNone(t, b[:n])
	}
	for c := range 256 {
		listsNone(t, append(slices.Clone(b), byte(c)))
	}
}

// P5.2 (and the rules for all layers): what is answered is new memory, what is handed in stays as it is.
func TestBytesAreNewMemory(t *testing.T) {
	room := []byte("abcdefgh")
	l := []api.Entry{{Key: room[:2], Seq: 5, Kind: api.KindPut, Value: room[2:4]}, {Key: room[4:6], Seq: 5, Kind: api.KindPut, Value: room[:0]}}
	one, _ := ikey.Bytes(l[0])
	two, _ := ikey.List(l...)
	want := slices.Clone(two)
	for _, b := range [][]byte{one, two} {
		for i := range b {
			b[i] = '!'
		}
		_ = append(b, "!!!!!!!!"...)
	}
	if string(room) != "abcdefgh" {
		t.Errorf("the bytes are the entries' memory: %q", room)
	}
	e, _ := ikey.Read([]byte("\x02ab\x05\x01\x02cd"))
	got, _ := ikey.Lists(want)
	was := slices.Clone(want)
	spoil(e)
	spoil(got...)
	if !bytes.Equal(want, was) {
		t.Errorf("the entries are the bytes' memory: %q", want)
	}
	got, _ = ikey.Lists(want)
	clear(want)
	if !slices.EqualFunc(got, l, ikey.Same) {
		t.Errorf("the entries change with the bytes: %s %s", tell(got[0]), tell(got[1]))
	}
	spoil(got[0])
	if !ikey.Same(got[1], l[1]) {
		t.Errorf("two entries of one list share memory: %s", tell(got[1]))
	}
	form := []byte("\x02ab\x05\x01\x02cd")
	e, _ = ikey.Read(form)
	clear(form)
	if !ikey.Same(e, l[0]) {
		t.Errorf("the entry changes with its bytes: %s", tell(e))
	}
}
