package table_test

import (
	"encoding/binary"
	"hash/crc32"
	"iter"
	"math"
	"slices"
	"strconv"
	"strings"
	"testing"

	"hectare/api"
	"hectare/block"
	"hectare/bloom"
	"hectare/ikey"
	"hectare/table"
)

// put is an entry that puts a value.
func put(key string, seq int64, value string) api.Entry {
	return api.Entry{Key: []byte(key), Seq: seq, Kind: api.KindPut, Value: []byte(value)}
}

// del is an entry that deletes.
func del(key string, seq int64) api.Entry {
	return api.Entry{Key: []byte(key), Seq: seq, Kind: api.KindDelete}
}

// of is an entry of any kind.
func of(key string, seq int64, kind api.Kind, value string) api.Entry {
	return api.Entry{Key: []byte(key), Seq: seq, Kind: kind, Value: []byte(value)}
}

// long is a text of n letters.
func long(n int) string {
	return strings.Repeat("x", n)
}

// list is entries as a list.
func list(l ...api.Entry) []api.Entry {
	return l
}

// bads are entries that may not be.
func bads() []api.Entry {
	l := list(api.Entry{}, put("", 5, "x"), del("", 5), put(long(33), 5, "x"), del(long(33), 5), put("m", 5, long(65537)), of("m", 5, api.KindDelete, "x"))
	for _, seq := range []int64{0, -1, math.MinInt64, api.MaxNumber + 1, 1<<32 + 5, math.MaxInt64} {
		l = append(l, put("m", seq, "x"), del("m", seq))
	}
	for _, kind := range []api.Kind{0, -1, 3, 1<<32 + 1, math.MinInt, math.MaxInt} {
		l = append(l, of("m", 5, kind, "x"), of("m", 5, kind, ""))
	}
	return l
}

// many are n rising entries, of most keys one, of some three.
func many(n int) []api.Entry {
	var l []api.Entry
	for i := 0; len(l) < n; i++ {
		key := "k" + string(rune('a'+i/676)) + string(rune('a'+i/26%26)) + string(rune('a'+i%26))
		switch seq := int64(9000 - i); i % 4 {
		case 0:
			l = append(l, put(key, seq, long(i%40)), del(key, 300), put(key, 1, "v"))
		case 1:
			l = append(l, del(key, seq))
		default:
			l = append(l, put(key, seq, long(i%23)))
		}
	}
	return l[:n]
}

// some are at most most rising entries of few keys and numbers, by a rule that hangs on seed.
func some(most int, seed uint32) []api.Entry {
	at := func(n uint32) uint32 {
		seed = seed*1664525 + 1013904223
		return seed >> 8 % n
	}
	letters := "ab\x00\xff"
	var l []api.Entry
	for range most {
		key := ""
		for range 1 + at(4) {
			key += letters[at(4):][:1]
		}
		seq := int64(1 + at(6)*at(50))
		if at(3) == 0 {
			l = append(l, del(key, seq))
		} else {
			l = append(l, put(key, seq, long(int(at(4)*at(100)))))
		}
	}
	return slices.CompactFunc(ikey.Sort(l...), func(a, b api.Entry) bool { return ikey.Compare(a, b) == 0 })
}

// versions are n entries of one key.
func versions(key string, n, size int) []api.Entry {
	var l []api.Entry
	for i := range n {
		l = append(l, put(key, int64(n-i), long(size)))
	}
	return l
}

// lists are lists of rising entries of all lengths, at all edges.
func lists() [][]api.Entry {
	full := strings.Repeat("\xff", 32)
	all := [][]api.Entry{
		list(put("a", 5, "")), list(del("a", 1)), list(put(full, api.MaxNumber, long(65536))), list(del(full, 1)), list(del("\x00", 127), del("\x00\x00", 128)),
		list(put("a", 7, "x"), del("a", 5), put("a", 3, ""), del("a", 2), del("a", 1)), list(del(long(31), 300), put(long(32), 300, ""), put(long(32), 299, "y")),
		list(put("a", 1, long(65536)), put("b", 1, long(300)), put("c", 1, long(65535)), del("d", 1), put("e", 1, long(127)), put("f", 1, long(128)), put("g", 1, "")),
		versions("k", 300, 0), versions("k", 40, 100), versions("k", 7, 600), slices.Concat(versions("a", 60, 20), versions("b", 60, 20), versions("ba", 1, 0)),
	}
	for n := range 30 {
		all = append(all, many(7*n+1))
	}
	for n := range uint32(60) {
		all = append(all, some(1+int(n*3), n))
	}
	return append(all, many(1024), many(1025), many(4095), many(4096))
}

// fill are the entries of each block, as the chapter's words have it.
func fill(l []api.Entry) [][]api.Entry {
	var blocks [][]api.Entry
	for _, e := range l {
		last := len(blocks) - 1
		if last >= 0 {
			if with := append(slices.Clone(blocks[last]), e); len(with) <= 1024 && block.Size(with...) <= 512 {
				blocks[last] = with
				continue
			}
		}
		blocks = append(blocks, list(e))
	}
	return blocks
}

// at is what the index says of a block, whatever that is.
func at(key string, seq, begin, size uint64) string {
	b := append(binary.AppendUvarint(nil, uint64(len(key))), key...)
	return string(binary.AppendUvarint(binary.AppendUvarint(binary.AppendUvarint(b, seq), begin), size))
}

// row is a list's form.
func row(l ...string) string {
	return string(binary.AppendUvarint(nil, uint64(len(l)))) + strings.Join(l, "")
}

// parts are what stands in a table's bytes.
type parts struct {
	blocks []string
	index  []string // what it says of each block
	filter string
	count  int
}

// partsOf are those of blocks of these entries, each right in itself.
func partsOf(t *testing.T, blocks ...[]api.Entry) parts {
	t.Helper()
	var p parts
	begin := 0
	keys := map[string]int{}
	for _, l := range blocks {
		b, no := block.Write(l...)
		if no != api.OK {
			t.Fatalf("no block: %s", tellAll(l))
		}
		last := l[len(l)-1]
		p.blocks = append(p.blocks, string(b))
		p.index = append(p.index, at(string(last.Key), uint64(last.Seq), uint64(begin), uint64(len(b))))
		begin += len(b)
		p.count += len(l)
		for _, e := range l {
			keys[string(e.Key)]++
		}
	}
	p.filter = filterOf(keys)
	return p
}

// filterOf is the filter of keys, each once.
func filterOf(keys map[string]int) string {
	var l [][]byte
	for key := range keys {
		l = append(l, []byte(key))
	}
	b, _ := bloom.Make(l...)
	return string(b)
}

// four are the numbers as four bytes each.
func four(l ...int) string {
	var b []byte
	for _, n := range l {
		b = binary.BigEndian.AppendUint32(b, uint32(n))
	}
	return string(b)
}

// sum is the sum of a text.
func sum(s string) int {
	return int(crc32.Checksum([]byte(s), crc32.MakeTable(crc32.Castagnoli)))
}

// footed is what stands ahead of a foot that says these numbers, and the foot, with the right sums.
func footed(ahead string, numbers ...int) string {
	foot := four(append(numbers, sum(ahead))...)
	return ahead + foot + four(sum(foot))
}

// bytes are the table's bytes of these parts, with the right places and sums.
func (p parts) bytes() string {
	blocks, index := strings.Join(p.blocks, ""), row(p.index...)
	return footed(blocks+index+p.filter, len(blocks), len(index), len(blocks)+len(index), len(p.filter), p.count)
}

// spelt are the entries' table's bytes, as the chapter's words have them.
func spelt(t *testing.T, l []api.Entry) string {
	t.Helper()
	return partsOf(t, fill(l)...).bytes()
}

// tell says an entry in short.
func tell(e api.Entry) string {
	return "(" + strconv.QuoteToASCII(string(e.Key[:min(len(e.Key), 40)])) + " " + strconv.FormatInt(e.Seq, 10) + " " + strconv.Itoa(int(e.Kind)) + " " + strconv.QuoteToASCII(string(e.Value[:min(len(e.Value), 9)])) + ")"
}

func tellAll(l []api.Entry) string {
	s := ""
	for _, e := range l[:min(len(l), 12)] {
		s += tell(e)
	}
	return strconv.Itoa(len(l)) + ": " + s
}

func same(a, b []api.Entry) bool {
	return slices.EqualFunc(a, b, ikey.Same)
}

func zero(e api.Entry) bool {
	return e.Key == nil && e.Seq == 0 && e.Kind == 0 && e.Value == nil
}

// spoil overwrites what entries have, and what is behind it in their memory.
func spoil(l ...api.Entry) {
	for i, e := range l {
		for _, b := range [][]byte{e.Key, e.Value} {
			for j := range b {
				b[j] = '!'
			}
			_ = append(b, "!!!!!!!!"...)
		}
		l[i] = api.Entry{}
	}
}

// over gathers what all goes over.
func over(all iter.Seq[api.Entry]) []api.Entry {
	var l []api.Entry
	for e := range all {
		l = append(l, e)
	}
	return l
}

// written are the table's bytes of these entries.
func written(t *testing.T, l ...api.Entry) []byte {
	t.Helper()
	b, no := table.Write(l...)
	if no != api.OK {
		t.Fatalf("Write of %s: %v", tellAll(l), no)
	}
	return b
}

// opened is the table of these entries.
func opened(t *testing.T, l ...api.Entry) *table.Table {
	t.Helper()
	got, no := table.Open(written(t, l...))
	if got == nil || no != api.OK {
		t.Fatalf("Open of Write of %s: %v", tellAll(l), no)
	}
	return got
}

// is says that the entries' table is these bytes, and that what they are opened to has the entries, and is these bytes.
func is(t *testing.T, l []api.Entry, want string) {
	t.Helper()
	b, no := table.Write(l...)
	if string(b) != want || no != api.OK {
		t.Fatalf("Write of %s: %d bytes, %v, want %d: % x, want % x", tellAll(l), len(b), no, len(want), b[:min(len(b), 40)], want[:min(len(want), 40)])
	}
	got, no := table.Open([]byte(want))
	if got == nil || no != api.OK {
		t.Fatalf("Open of %d bytes: %v", len(want), no)
	}
	if all := over(got.All()); !same(all, l) || got.Len() != len(l) {
		t.Fatalf("Open of %d bytes: Len %d, %s, want %s", len(want), got.Len(), tellAll(all), tellAll(l))
	}
	if string(got.Bytes()) != want || got.Blocks() != len(fill(l)) {
		t.Fatalf("Open of %d bytes: %d bytes, %d blocks", len(want), len(got.Bytes()), got.Blocks())
	}
}

// isNone says that these are no table's bytes.
func isNone(t *testing.T, b string) {
	t.Helper()
	given := []byte(b)
	if got, no := table.Open(given); got != nil || no != api.ErrCorrupt {
		t.Errorf("Open of %d bytes: %v: % x", len(b), no, b[:min(len(b), 100)])
	}
	if string(given) != b {
		t.Errorf("Open changes % x", b[:min(len(b), 100)])
	}
}

// isRefused says that these are no table's entries.
func isRefused(t *testing.T, l ...api.Entry) {
	t.Helper()
	if b, no := table.Write(l...); b != nil || no != api.ErrArg {
		t.Errorf("Write of %s: %d bytes, %v", tellAll(l), len(b), no)
	}
}
