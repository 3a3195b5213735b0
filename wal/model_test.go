package wal_test

import (
	"bytes"
	"encoding/binary"
	"fmt"
	"hash/crc32"
	"math"
	"strings"
	"testing"

	"hectare/api"
	"hectare/wal"
)

// put is an entry that puts a value.
func put(key string, seq int64, value string) api.Entry {
	return api.Entry{Key: []byte(key), Seq: seq, Kind: api.KindPut, Value: []byte(value)}
}

// del is an entry that deletes.
func del(key string, seq int64) api.Entry {
	return api.Entry{Key: []byte(key), Seq: seq, Kind: api.KindDelete}
}

// of is an entry of any kind.
func of(key string, seq int64, kind api.Kind, value string) api.Entry {
	return api.Entry{Key: []byte(key), Seq: seq, Kind: kind, Value: []byte(value)}
}

// batch is one of these entries.
func batch(index int64, l ...api.Entry) api.Batch {
	return api.Batch{Index: index, Entries: l}
}

// long is a text of n letters.
func long(n int) string {
	return strings.Repeat("x", n)
}

// number is a number's form.
func number(n uint64) string {
	return string(binary.AppendUvarint(nil, n))
}

// text is the form of bytes.
func text(s string) string {
	return number(uint64(len(s))) + s
}

// formOf is an entry's bytes, also of one that may not be.
func formOf(e api.Entry) string {
	b := text(string(e.Key)) + number(uint64(e.Seq)) + number(uint64(e.Kind))
	if e.Kind == api.KindPut {
		b += text(string(e.Value))
	}
	return b
}

// listOf is the bytes of a list of entries, also of ones that may not be.
func listOf(l []api.Entry) string {
	var b strings.Builder
	b.WriteString(number(uint64(len(l))))
	for _, e := range l {
		b.WriteString(text(formOf(e)))
	}
	return b.String()
}

// payloadOf is what the frame of a batch stands around, also of one that may not be.
func payloadOf(b api.Batch) string {
	return number(uint64(b.Index)) + text(listOf(b.Entries))
}

// framed is the frame around a payload, also around one that may not be.
func framed(payload string) string {
	castagnoli := crc32.MakeTable(crc32.Castagnoli)
	b := binary.BigEndian.AppendUint32(nil, uint32(len(payload)))
	sum := crc32.Update(crc32.Checksum(b, castagnoli), castagnoli, []byte(payload))
	return string(binary.BigEndian.AppendUint32(b, sum)) + payload
}

// log is a log's bytes of these batches, also of ones that may not be, or do not rise.
func log(l ...api.Batch) string {
	var b strings.Builder
	for _, one := range l {
		b.WriteString(framed(payloadOf(one)))
	}
	return b.String()
}

// cut takes a number off the beginning of bytes; false: there is none, or one in another form.
func cut(b string) (uint64, string, bool) {
	n, size := binary.Uvarint([]byte(b))
	if size < 1 || number(n) != b[:size] {
		return 0, "", false
	}
	return n, b[size:], true
}

// cutText takes bytes off the beginning of bytes.
func cutText(b string) (string, string, bool) {
	n, rest, is := cut(b)
	if !is || n > uint64(len(rest)) {
		return "", "", false
	}
	return rest[:n], rest[n:], true
}

// entryOf is the entry whose bytes these are, as the words of layer 5 have it.
func entryOf(b string) (api.Entry, bool) {
	key, b, one := cutText(b)
	seq, b, two := cut(b)
	kind, b, three := cut(b)
	value := ""
	if kind == 1 {
		var four bool
		value, b, four = cutText(b)
		three = three && four
	}
	may := len(key) >= 1 && len(key) <= 32 && seq >= 1 && seq <= 1<<31-1 && (kind == 1 || kind == 2) && len(value) <= 65536
	return of(key, int64(seq), api.Kind(kind), value), one && two && three && may && b == ""
}

// batchOf is the batch that a payload says, as the chapter's words have it.
func batchOf(payload string) (api.Batch, bool) {
	index, b, is := cut(payload)
	if !is || index < 1 || index > 1<<31-1 {
		return api.Batch{}, false
	}
	list, b, is := cutText(b)
	if !is || b != "" {
		return api.Batch{}, false
	}
	n, list, is := cut(list)
	if !is || n > 65536 {
		return api.Batch{}, false
	}
	one := batch(int64(index))
	for range n {
		var form string
		form, list, is = cutText(list)
		if !is {
			return api.Batch{}, false
		}
		e, is := entryOf(form)
		if !is {
			return api.Batch{}, false
		}
		one.Entries = append(one.Entries, e)
	}
	return one, list == ""
}

// model is what a log's bytes say.
type model struct {
	l    []api.Batch
	size int
	well bool
}

// said answers what bytes say, as the chapter's words have it.
func said(b string) model {
	var m model
	for last := int64(0); ; {
		rest := b[m.size:]
		if len(rest) < 8 {
			m.well = true
			return m
		}
		length := int64(binary.BigEndian.Uint32([]byte(rest)))
		if length >= 1 && length <= 1<<20 && length > int64(len(rest))-8 {
			m.well = true
			return m
		}
		if length < 1 || length > 1<<20 || framed(rest[8:8+length]) != rest[:8+length] {
			return m
		}
		one, is := batchOf(rest[8 : 8+length])
		if !is || one.Index <= last {
			return m
		}
		last = one.Index
		m.l, m.size = append(m.l, one), m.size+8+int(length)
	}
}

// agrees holds what all calls say of bytes against the model, says that they stay as they are, and answers what they say.
func agrees(t *testing.T, b string) model {
	t.Helper()
	m := said(b)
	says(t, b, m.l, m.size, m.well)
	return m
}

// says says that bytes are a log's, of these batches, which have so many bytes, and whether all is well.
func says(t *testing.T, b string, want []api.Batch, size int, well bool) {
	t.Helper()
	in := []byte(b)
	l, n, is := wal.Batches(in)
	if !same(l, want) || n != size || is != well {
		t.Fatalf("Batches of %s: %s, %d, %v; want %s, %d, %v", head(b), tell(l), n, is, tell(want), size, well)
	}
	goesOver(t, wal.After(in, 0), want...)
	if len(want) > 0 {
		goesOver(t, wal.After(in, want[0].Index), want[1:]...)
		goesOver(t, wal.After(in, want[len(want)-1].Index-1), want[len(want)-1])
	}
	if string(in) != b {
		t.Fatalf("%s are changed to %s", head(b), head(string(in)))
	}
}

// goesOver says that an order goes over just these batches.
func goesOver(t *testing.T, all func(func(api.Batch) bool), want ...api.Batch) {
	t.Helper()
	var l []api.Batch
	for one := range all {
		l = append(l, one)
	}
	if !same(l, want) {
		t.Fatalf("goes over %s, want %s", tell(l), tell(want))
	}
}

// same tells whether all batches are the same.
func same(a, b []api.Batch) bool {
	if len(a) != len(b) {
		return false
	}
	for i := range a {
		if a[i].Index != b[i].Index || len(a[i].Entries) != len(b[i].Entries) {
			return false
		}
		for j, e := range a[i].Entries {
			o := b[i].Entries[j]
			if !bytes.Equal(e.Key, o.Key) || e.Seq != o.Seq || e.Kind != o.Kind || !bytes.Equal(e.Value, o.Value) {
				return false
			}
		}
	}
	return true
}

// tell says batches in short.
func tell(l []api.Batch) string {
	s := fmt.Sprint(len(l), " batches:")
	for _, b := range l[:min(len(l), 4)] {
		s += fmt.Sprintf(" %d (", b.Index)
		for _, e := range b.Entries[:min(len(b.Entries), 3)] {
			s += fmt.Sprintf(" %.9q %d %d %.9q", e.Key, e.Seq, e.Kind, e.Value)
		}
		s += fmt.Sprintf(" ..%d)", len(b.Entries))
	}
	return s
}

// head is how bytes are told where they don't agree.
func head(b string) string {
	return fmt.Sprintf("%d bytes, % x", len(b), b[:min(len(b), 60)])
}

// written is the bytes of a batch that may be, as the words have them.
func written(t *testing.T, one api.Batch) string {
	t.Helper()
	b, no := wal.Put(one)
	if no != api.OK || string(b) != log(one) {
		t.Fatalf("Put(%s): %s, %v; want %s", tell([]api.Batch{one}), head(string(b)), no, head(log(one)))
	}
	return string(b)
}

// chance answers numbers below what it is asked for, by a rule.
func chance(seed uint32) func(int) int {
	x := seed*2654435761 + 1
	return func(below int) int {
		x = x*1664525 + 1013904223
		return int(x>>8) % below
	}
}

// someEntry is an entry that may be.
func someEntry(next func(int) int) api.Entry {
	key := []string{"a", "b", "\x00", "\xff\xff", "key", long(32)}[next(6)]
	seq := []int64{1, 2, 127, 128, 300, 1 << 20, api.MaxNumber}[next(7)]
	if next(3) == 0 {
		return del(key, seq)
	}
	return put(key, seq, []string{"", "x", "value", "\x00\x00\x00\x01", long(130)}[next(5)])
}

// someLog is batches that rise.
func someLog(next func(int) int, n int) []api.Batch {
	var l []api.Batch
	index := int64(next(3))
	for range n {
		index += int64([]int{1, 1, 1, 2, 100, 20000}[next(6)])
		one := batch(index)
		for range next(4) {
			one.Entries = append(one.Entries, someEntry(next))
		}
		l = append(l, one)
	}
	return l
}

// goods are entries that may be, at all edges, no two the same.
func goods() []api.Entry {
	return []api.Entry{
		put("a", 5, "x"), del("a", 5), put("a", 5, ""), put("b", 5, "x"), put("a", 7, "x"), put("a", 5, "y"), del("a", 1), del("a", api.MaxNumber),
		put("\x00", 1, "\x00"), put("\xff", api.MaxNumber, "\xff"), put(long(32), 128, long(128)), del(long(32), 127), put("a", 300, long(65535)), put("a", 300, long(65536)),
	}
}

// bads are entries that may not be.
func bads() []api.Entry {
	l := []api.Entry{
		{}, put("", 5, "x"), del("", 5), put(long(33), 5, "x"), del(long(33), 5), put("a", 5, long(65537)), of("a", 5, api.KindDelete, "x"), of("a", 5, api.KindDelete, long(65537)),
	}
	for _, seq := range []int64{0, -1, math.MinInt64, api.MaxNumber + 1, 1<<32 + 5, math.MaxInt64} {
		l = append(l, put("a", seq, "x"), del("a", seq))
	}
	for _, kind := range []api.Kind{0, -1, 3, 127, 128, 1<<32 + 1, math.MinInt, math.MaxInt} {
		l = append(l, of("a", 5, kind, "x"), of("a", 5, kind, ""))
	}
	return l
}

// indexes are places that may be, at all edges.
func indexes() []int64 {
	return []int64{1, 2, 127, 128, 300, 16383, 16384, 1<<21 - 1, 1 << 21, 1 << 28, api.MaxNumber - 1, api.MaxNumber}
}

// noIndexes are places that may not be.
func noIndexes() []int64 {
	return []int64{0, -1, -2, math.MinInt32, math.MinInt64, math.MinInt64 + 1, api.MaxNumber + 1, 1 << 32, 1<<32 + 1, 1 << 62, math.MaxInt64}
}
