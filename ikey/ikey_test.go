package ikey_test

import (
	"bytes"
	"cmp"
	"math"
	"strings"
	"testing"

	"hectare/api"
	"hectare/ikey"
)

// put is an entry that puts a value.
func put(key string, seq int64, value string) api.Entry {
	return api.Entry{Key: []byte(key), Seq: seq, Kind: api.KindPut, Value: []byte(value)}
}

// del is an entry that deletes.
func del(key string, seq int64) api.Entry {
	return api.Entry{Key: []byte(key), Seq: seq, Kind: api.KindDelete}
}

// of is an entry of any kind.
func of(key string, seq int64, kind api.Kind, value string) api.Entry {
	return api.Entry{Key: []byte(key), Seq: seq, Kind: kind, Value: []byte(value)}
}

// long is a text of n letters.
func long(n int) string {
	return strings.Repeat("x", n)
}

// goods are entries that may be, at all edges, no two the same.
func goods() []api.Entry {
	return []api.Entry{
		put("a", 5, "x"), del("a", 5), put("a", 5, ""), put("a", 7, "x"), del("a", 7),
		put("a", 1, "x"), put("a", api.MaxNumber, "x"), del("a", 1), del("a", api.MaxNumber), put("a", 127, "x"), put("a", 128, "x"),
		put("\x00", 5, "x"), del("\x00", 5), put("\x00\x00", 5, "x"), put("a\x00", 5, "x"), put("a\xff", 5, "x"), put("\xff", 5, "x"), del("\xff", 5),
		put(long(31), 5, "x"), put(long(32), 5, "x"), del(long(32), 5), put(strings.Repeat("\xff", 32), api.MaxNumber, strings.Repeat("\xff", 127)),
		put("a", 5, "\x00"), put("a", 5, long(127)), put("a", 5, long(128)), put("a", 5, long(16384)), put("a", 5, long(65535)), put("a", 5, long(65536)),
	}
}

// bads are entries that may not be.
func bads() []api.Entry {
	l := []api.Entry{
		{}, {Seq: 5, Kind: api.KindPut}, put("", 5, "x"), del("", 5), put(long(33), 5, "x"), del(long(33), 5), del(long(65536), 5),
		put("a", 5, long(65537)), put("a", 5, long(200000)), of("a", 5, api.KindDelete, "x"), of("a", 5, api.KindDelete, "\x00"), of("a", 5, api.KindDelete, long(65536)),
	}
	for _, seq := range []int64{0, -1, -5, math.MinInt64, math.MinInt32, api.MaxNumber + 1, 1 << 32, 1<<32 + 5, math.MaxInt64} {
		l = append(l, put("a", seq, "x"), del("a", seq))
	}
	for _, kind := range []api.Kind{0, -1, -2, 3, 4, 128, 1<<32 + 1, math.MinInt, math.MaxInt} {
		l = append(l, of("a", 5, kind, "x"), of("a", 5, kind, ""))
	}
	return l
}

// tell says an entry in short.
func tell(e api.Entry) string {
	value := string(e.Value)
	if len(value) > 9 {
		value = value[:9] + ".."
	}
	return "(" + string(e.Key) + " " + number(e.Seq) + " " + number(int64(e.Kind)) + " " + value + ")"
}

// The chapter's examples of the order, and of what is seen.
func TestExamples(t *testing.T) {
	for _, x := range []struct {
		a, b api.Entry
		want int
	}{
		{put("a", 5, ""), put("a", 7, ""), 1}, {put("a", 5, ""), put("b", 7, ""), -1}, {put("a", 5, "x"), del("a", 5), 0},
	} {
		if got := ikey.Compare(x.a, x.b); got != x.want {
			t.Errorf("Compare(%s, %s): %d, want %d", tell(x.a), tell(x.b), got, x.want)
		}
	}
	bytesAre(t, put("a", 5, "x"), "\x01\x61\x05\x01\x01\x78")
	bytesAre(t, del("a", 5), "\x01\x61\x05\x02")
	readsNone(t, "\x01\x61\x05\x03")
	readsNone(t, "\x01\x61\x00\x02")
	if b, no := ikey.Bytes(of("a", 5, api.KindDelete, "x")); b != nil || no != api.ErrArg {
		t.Errorf("Bytes of a delete with a value: % x, %v", b, no)
	}
	seen := ikey.Latest([]api.Entry{put("a", 7, ""), del("a", 5), put("b", 9, ""), put("b", 4, "")}, 6)
	goesOver(t, seen, del("a", 5), put("b", 4, ""))
}

// P5.1: what may be, at each edge, and what may not.
func TestMay(t *testing.T) {
	for _, e := range goods() {
		if !ikey.May(e) {
			t.Errorf("%s may not be", tell(e))
		}
	}
	for _, e := range bads() {
		if ikey.May(e) {
			t.Errorf("%s may be", tell(e))
		}
	}
	if !ikey.May(api.Entry{Key: []byte("a"), Seq: 5, Kind: api.KindPut}) || !ikey.May(api.Entry{Key: []byte("a"), Seq: 5, Kind: api.KindDelete, Value: []byte{}}) {
		t.Error("nil and empty values are not one")
	}
}

// P5.1: keys by their bytes, one that is the other one's beginning first.
func TestCompareKeys(t *testing.T) {
	rising := []string{"", "\x00", "\x00\x00", "\x00\x01", "\x01", "A", "a", "a\x00", "aa", "aa\xff", "ab", "b", "\x7f", "\x80", "\xfe\xff", "\xff", "\xff\x00", "\xff\xff", strings.Repeat("\xff", 32), strings.Repeat("\xff", 33), strings.Repeat("\xff", 70000)}
	for i, a := range rising {
		for j, b := range rising {
			want := cmp.Compare(i, j)
			if got := ikey.CompareKeys([]byte(a), []byte(b)); got != want {
				t.Errorf("CompareKeys(%.9q, %.9q): %d, want %d", a, b, got, want)
			}
		}
	}
	if ikey.CompareKeys(nil, []byte{}) != 0 || ikey.CompareKeys(nil, nil) != 0 {
		t.Error("nil and empty keys are not one")
	}
}

// P5.1: entries by their keys, of one key by falling Seq, whatever else they have; also ones that may not be.
func TestCompare(t *testing.T) {
	var rising []api.Entry
	for _, key := range []string{"", "a", "a\x00", "b", long(33)} {
		for _, seq := range []int64{math.MaxInt64, math.MaxInt64 - 1, api.MaxNumber + 1, api.MaxNumber, 7, 5, 1, 0, -1, math.MinInt64 + 1, math.MinInt64} {
			rising = append(rising, put(key, seq, "x"))
		}
	}
	for i, a := range rising {
		for j, b := range rising {
			want := cmp.Compare(i, j)
			for _, kind := range []api.Kind{api.KindPut, api.KindDelete, 0, 9} {
				for _, value := range []string{"", "a", "x", "y"} {
					b.Kind, b.Value = kind, []byte(value)
					if got := ikey.Compare(a, b); got != want {
						t.Fatalf("Compare(%s, %s): %d, want %d", tell(a), tell(b), got, want)
					}
				}
			}
		}
	}
}

// P5.1: Same is each with itself alone, of those that may be, and of others.
func TestSame(t *testing.T) {
	l := append(goods(), put("", 5, "x"), put("a", 0, "x"), put("a", -1, "x"), of("a", 5, 0, "x"), of("a", 5, 3, "x"), of("a", 5, api.KindDelete, "x"), of("b", 5, api.KindDelete, "x"), api.Entry{})
	for i, a := range l {
		for j, b := range l {
			if got := ikey.Same(a, ikey.Copy(b)); got != (i == j) {
				t.Errorf("Same(%s, %s): %v", tell(a), tell(b), got)
			}
		}
	}
	if !ikey.Same(api.Entry{}, api.Entry{Key: []byte{}, Value: []byte{}}) || !ikey.Same(put("a", 5, ""), api.Entry{Key: []byte("a"), Seq: 5, Kind: api.KindPut}) {
		t.Error("nil and empty lists are not one")
	}
}

// P5.1: a copy is the same, in new memory.
func TestCopy(t *testing.T) {
	for _, e := range append(goods(), bads()...) {
		c := ikey.Copy(e)
		if !bytes.Equal(c.Key, e.Key) || c.Seq != e.Seq || c.Kind != e.Kind || !bytes.Equal(c.Value, e.Value) {
			t.Errorf("Copy(%s): %s", tell(e), tell(c))
		}
	}
	room := []byte("abcdefgh")
	e := api.Entry{Key: room[:2], Seq: 5, Kind: api.KindPut, Value: room[2:4]}
	c := ikey.Copy(e)
	spoil(c)
	if string(room) != "abcdefgh" {
		t.Errorf("the copy is the caller's memory: %q", room)
	}
	c = ikey.Copy(e)
	clear(room)
	if string(c.Key) != "ab" || string(c.Value) != "cd" {
		t.Errorf("the copy changes with the entry: %s", tell(c))
	}
	c = ikey.Copy(api.Entry{Key: room[:0], Value: room[:0]})
	spoil(c)
	if string(room) != "\x00\x00\x00\x00\x00\x00\x00\x00" {
		t.Errorf("the copy of nothing is the caller's memory: %q", room)
	}
}

// spoil writes over all of an entry, and behind it.
func spoil(l ...api.Entry) {
	for _, e := range l {
		for _, b := range [][]byte{e.Key, e.Value} {
			for i := range b {
				b[i] = '!'
			}
			_ = append(b, "!!!!!!!!"...)
		}
	}
}

// P5.1: Size is how many bytes there are, and 0 of what has none.
func TestSize(t *testing.T) {
	for _, x := range []struct {
		e    api.Entry
		want int
	}{
		{put("a", 5, "x"), 6}, {del("a", 5), 4}, {put("a", 5, ""), 5}, {put("a", 127, ""), 5}, {put("a", 128, ""), 6}, {put("a", 16384, ""), 7},
		{put("a", 1<<21, ""), 8}, {put("a", 1<<28, ""), 9}, {put("a", api.MaxNumber, ""), 9}, {del("a", api.MaxNumber), 8},
		{put(long(32), 5, ""), 36}, {del(long(32), 5), 35}, {put("a", 5, long(127)), 132}, {put("a", 5, long(128)), 134}, {put("a", 5, long(16384)), 16391}, {put("a", 5, long(65536)), 65543},
	} {
		if got := ikey.Size(x.e); got != x.want {
			t.Errorf("Size of %s: %d, want %d", tell(x.e), got, x.want)
		}
	}
	for _, e := range goods() {
		if b, no := ikey.Bytes(e); no != api.OK || ikey.Size(e) != len(b) {
			t.Errorf("Size of %s: %d, of %d bytes, %v", tell(e), ikey.Size(e), len(b), no)
		}
	}
	for _, e := range bads() {
		if got := ikey.Size(e); got != 0 {
			t.Errorf("Size of %s: %d", tell(e), got)
		}
	}
}
