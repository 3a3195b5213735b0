package block_test

import (
	"bytes"
	"encoding/binary"
	"math"
	"slices"
	"strconv"
	"strings"
	"testing"

	"hectare/api"
	"hectare/block"
	"hectare/ikey"
)

// put is an entry that puts a value.
func put(key string, seq int64, value string) api.Entry {
	return api.Entry{Key: []byte(key), Seq: seq, Kind: api.KindPut, Value: []byte(value)}
}

// del is an entry that deletes.
func del(key string, seq int64) api.Entry {
	return api.Entry{Key: []byte(key), Seq: seq, Kind: api.KindDelete}
}

// of is an entry of any kind.
func of(key string, seq int64, kind api.Kind, value string) api.Entry {
	return api.Entry{Key: []byte(key), Seq: seq, Kind: kind, Value: []byte(value)}
}

// long is a text of n letters.
func long(n int) string {
	return strings.Repeat("x", n)
}

// list is entries as a list.
func list(l ...api.Entry) []api.Entry {
	return l
}

// bads are entries that may not be.
func bads() []api.Entry {
	l := list(api.Entry{}, put("", 5, "x"), del("", 5), put(long(33), 5, "x"), del(long(33), 5), put("m", 5, long(65537)), of("m", 5, api.KindDelete, "x"))
	for _, seq := range []int64{0, -1, math.MinInt64, api.MaxNumber + 1, 1<<32 + 5, math.MaxInt64} {
		l = append(l, put("m", seq, "x"), del("m", seq))
	}
	for _, kind := range []api.Kind{0, -1, 3, 1<<32 + 1, math.MinInt, math.MaxInt} {
		l = append(l, of("m", 5, kind, "x"), of("m", 5, kind, ""))
	}
	return l
}

// many are n rising entries, whose keys' beginnings change now and then.
func many(n int) []api.Entry {
	var l []api.Entry
	for i := range n {
		key := "k" + string(rune('a'+i/300)) + string(rune('a'+i/60%5)) + string(rune('a'+i/12%5)) + long(i/3%4)
		seq := int64(3000 - i)
		if i%3 == 1 {
			l = append(l, del(key, seq))
		} else {
			l = append(l, put(key, seq, long(i%7)))
		}
	}
	return ikey.Sort(l...)
}

// some are at most most rising entries of few keys and numbers, by a rule that hangs on seed.
func some(most int, seed uint32) []api.Entry {
	at := func(n uint32) uint32 {
		seed = seed*1664525 + 1013904223
		return seed >> 8 % n
	}
	letters := "ab\x00\xff"
	var l []api.Entry
	for range most {
		key := ""
		for range 1 + at(5) {
			key += letters[at(4):][:1]
		}
		seq := int64(1 + at(4)*at(100))
		if at(3) == 0 {
			l = append(l, del(key, seq))
		} else {
			l = append(l, put(key, seq, long(int(at(4)*at(60)))))
		}
	}
	return slices.CompactFunc(ikey.Sort(l...), func(a, b api.Entry) bool { return ikey.Compare(a, b) == 0 })
}

// lists are lists of rising entries of all lengths, at all edges.
func lists() [][]api.Entry {
	full := strings.Repeat("\xff", 32)
	all := [][]api.Entry{
		list(put("a", 5, "")), list(del("a", 1)), list(put(full, api.MaxNumber, long(65536))), list(del(full, 1)), list(del("\x00", 127), del("\x00\x00", 128)),
		list(put("a", 7, "x"), del("a", 5), put("a", 3, ""), del("a", 2), del("a", 1)), list(del(long(31), 300), put(long(32), 300, ""), put(long(32), 299, "y")),
		list(put("a", 1, long(65536)), put("b", 1, long(300)), put("c", 1, long(65535)), del("d", 1), put("e", 1, long(127)), put("f", 1, long(128)), put("g", 1, "")),
	}
	for n := range 40 {
		all = append(all, many(n+1))
	}
	for n := range uint32(100) {
		all = append(all, some(1+int(n%30), n))
	}
	return append(all, many(255), many(256), many(1023), many(1024))
}

// part is an entry's bytes behind such numbers, whatever they are.
func part(shared uint64, rest string, seq, kind uint64, value ...string) string {
	b := binary.AppendUvarint(nil, shared)
	b = append(binary.AppendUvarint(b, uint64(len(rest))), rest...)
	b = binary.AppendUvarint(binary.AppendUvarint(b, seq), kind)
	for _, v := range value {
		b = append(binary.AppendUvarint(b, uint64(len(v))), v...)
	}
	return string(b)
}

// four are the numbers as four bytes each.
func four(l ...int) string {
	var b []byte
	for _, n := range l {
		b = binary.BigEndian.AppendUint32(b, uint32(n))
	}
	return string(b)
}

// spelt are the entries' bytes as the chapter's words have them, and where the restarts' begin; of any entries.
func spelt(l []api.Entry) (string, []int) {
	var b strings.Builder
	var at []int
	for i, e := range l {
		shared := 0
		if i%4 == 0 {
			at = append(at, b.Len())
		} else {
			for ; shared < len(e.Key) && strings.HasPrefix(string(l[i-1].Key), string(e.Key[:shared+1])); shared++ {
			}
		}
		var value []string
		if e.Kind == api.KindPut {
			value = []string{string(e.Value)}
		}
		b.WriteString(part(uint64(shared), string(e.Key[shared:]), uint64(e.Seq), uint64(e.Kind), value...))
	}
	b.WriteString(four(append(slices.Clone(at), len(at))...))
	return b.String(), at
}

// number takes a number from the front, in its shortest form alone.
func number(b []byte) (uint64, []byte, bool) {
	n, size := binary.Uvarint(b)
	if size < 1 || len(binary.AppendUvarint(nil, n)) != size {
		return 0, nil, false
	}
	return n, b[size:], true
}

// text takes bytes from the front, at most most.
func text(b []byte, most uint64) ([]byte, []byte, bool) {
	n, b, is := number(b)
	if !is || n > most || n > uint64(len(b)) {
		return nil, nil, false
	}
	return b[:n], b[n:], true
}

// modelOne takes an entry from the front that stands behind another one (of no key: behind none); each rule is held by itself.
func modelOne(b []byte, ahead api.Entry, start bool) (api.Entry, []byte, bool) {
	shared, b, one := number(b)
	rest, b, two := text(b, 32)
	seq, b, three := number(b)
	kind, b, four := number(b)
	if !one || !two || !three || !four || shared > uint64(len(ahead.Key)) || seq < 1 || seq > math.MaxInt32 || kind < 1 || kind > 2 {
		return api.Entry{}, nil, false
	}
	key := string(ahead.Key[:shared]) + string(rest)
	if len(key) < 1 || len(key) > 32 || start && shared > 0 {
		return api.Entry{}, nil, false
	}
	if !start && len(rest) > 0 && shared < uint64(len(ahead.Key)) && ahead.Key[shared] == rest[0] { // more is shared
		return api.Entry{}, nil, false
	}
	if was := string(ahead.Key); key < was || key == was && int64(seq) >= ahead.Seq {
		return api.Entry{}, nil, false
	}
	e := del(key, int64(seq))
	if kind == 1 {
		value, left, is := text(b, 65536)
		if !is {
			return api.Entry{}, nil, false
		}
		e, b = put(key, int64(seq), string(value)), left
	}
	return e, b, true
}

// model reads a block, each rule by itself, from the front; false: it is none.
func model(b []byte) (l []api.Entry, at []int, is bool) {
	if len(b) < 4 {
		return nil, nil, false
	}
	n := int64(binary.BigEndian.Uint32(b[len(b)-4:]))
	if n*4+4 > int64(len(b)) {
		return nil, nil, false
	}
	ends := len(b) - 4 - int(n)*4
	var ahead api.Entry
	for left := b[:ends]; len(left) > 0; {
		if len(l)%4 == 0 {
			at = append(at, ends-len(left))
		}
		ahead, left, is = modelOne(left, ahead, len(l)%4 == 0)
		if !is {
			return nil, nil, false
		}
		l = append(l, ahead)
	}
	if len(l) < 1 || len(l) > 1024 || string(b[ends:]) != four(append(slices.Clone(at), len(at))...) {
		return nil, nil, false
	}
	return l, at, true
}

// tell says an entry in short.
func tell(e api.Entry) string {
	return "(" + strconv.QuoteToASCII(string(e.Key[:min(len(e.Key), 40)])) + " " + strconv.FormatInt(e.Seq, 10) + " " + strconv.Itoa(int(e.Kind)) + " " + strconv.QuoteToASCII(string(e.Value[:min(len(e.Value), 9)])) + ")"
}

func tellAll(l []api.Entry) string {
	s := ""
	for _, e := range l[:min(len(l), 20)] {
		s += tell(e)
	}
	return strconv.Itoa(len(l)) + ": " + s
}

func same(a, b []api.Entry) bool {
	return slices.EqualFunc(a, b, ikey.Same)
}

func zero(e api.Entry) bool {
	return e.Key == nil && e.Seq == 0 && e.Kind == 0 && e.Value == nil
}

// spoil overwrites what entries have, and what is behind it in their memory.
func spoil(l ...api.Entry) {
	for i, e := range l {
		for _, b := range [][]byte{e.Key, e.Value} {
			for j := range b {
				b[j] = '!'
			}
			_ = append(b, "!!!!!!!!"...)
		}
		l[i] = api.Entry{}
	}
}

// made is the block of these entries.
func made(t *testing.T, l ...api.Entry) []byte {
	t.Helper()
	b, no := block.Write(l...)
	if no != api.OK {
		t.Fatalf("Write of %s: %v", tellAll(l), no)
	}
	return b
}

// blockIs says that the entries' block is these bytes, and what is read of them is the entries.
func blockIs(t *testing.T, l []api.Entry, want string) {
	t.Helper()
	b, no := block.Write(l...)
	if string(b) != want || no != api.OK {
		t.Errorf("Write of %s: % x, %v, want % x", tellAll(l), b[:min(len(b), 200)], no, want[:min(len(want), 200)])
	}
	got, no := block.Read([]byte(want))
	if !same(got, l) || no != api.OK {
		t.Errorf("Read(% x): %s, %v, want %s", want[:min(len(want), 200)], tellAll(got), no, tellAll(l))
	}
	if n := block.Size(l...); n != len(want) {
		t.Errorf("Size of %s: %d, want %d", tellAll(l), n, len(want))
	}
}

// isNone says that these are no block's bytes, for all who read them.
func isNone(t *testing.T, b string) {
	t.Helper()
	given := []byte(b)
	short := b[:min(len(b), 100)]
	if l, no := block.Read(given); l != nil || no != api.ErrBytes {
		t.Errorf("Read(% x): %s, %v", short, tellAll(l), no)
	}
	for _, key := range []string{"", "a"} {
		if e, no := block.Get(given, []byte(key), 9); !zero(e) || no != api.ErrBytes {
			t.Errorf("Get(% x, %q, 9): %s, %v", short, key, tell(e), no)
		}
		for e := range block.From(given, []byte(key)) {
			t.Errorf("From(% x, %q): %s", short, key, tell(e))
		}
	}
	if at, no := block.Restarts(given); at != nil || no != api.ErrBytes {
		t.Errorf("Restarts(% x): %v, %v", short, at, no)
	}
	if !bytes.Equal(given, []byte(b)) {
		t.Errorf("% x are changed", short)
	}
}
