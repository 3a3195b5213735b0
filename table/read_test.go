package table_test

import (
	"math"
	"slices"
	"strings"
	"testing"

	"hectare/api"
	"hectare/block"
	"hectare/table"
)

// isTable says that these are a table's bytes, so that of what is refused beside it just what was changed is wrong.
func isTable(t *testing.T, b string) {
	t.Helper()
	if got, no := table.Open([]byte(b)); got == nil || no != api.OK {
		t.Errorf("Open of %d bytes: %v: % x", len(b), no, b[:min(len(b), 100)])
	}
}

// P9.1: bytes that are too few, or of few values.
func TestOpenTooFew(t *testing.T) {
	isNone(t, "")
	if got, no := table.Open(nil); got != nil || no != api.ErrCorrupt {
		t.Errorf("Open(nil): %v", no)
	}
	for _, c := range []string{"\x00", "\x01", "\x7f", "\x80", "\xff"} {
		for n := range 70 {
			isNone(t, strings.Repeat(c, n))
		}
		isNone(t, strings.Repeat(c, 4096))
	}
	isNone(t, footed("", 0, 0, 0, 0, 0))
	isNone(t, footed("\x00", 0, 1, 1, 0, 0))
	isNone(t, footed("\x00"+filterOf(nil), 0, 1, 1, 8, 0)) // no entries
	isNone(t, footed("\x01\x01a\x05\x00\x00"+filterOf(map[string]int{"a": 1}), 0, 6, 6, 8, 1))
}

// P9.1: any two parts changed against each other, left out, or there twice.
func TestOpenOtherOrder(t *testing.T) {
	blocks := fill(many(60))
	p := partsOf(t, blocks...)
	b, index, f := strings.Join(p.blocks, ""), row(p.index...), p.filter
	n, i, m := len(b), len(index), len(f)
	isTable(t, footed(b+index+f, n, i, n+i, m, 60))
	isNone(t, footed(b+f+index, n+m, i, n, m, 60))
	isNone(t, footed(index+b+f, 0, i, n+i, m, 60))
	isNone(t, footed(f+b+index, n+m, i, 0, m, 60))
	isNone(t, footed(b+index, n, i, n+i, 0, 60))
	isNone(t, footed(b+f, n, 0, n, m, 60))
	isNone(t, footed(index+f, 0, i, i, m, 60))
	isNone(t, footed(b+index+index+f, n, i, n+2*i, m, 60))
	isNone(t, footed(b+index+index+f, n+i, i, n+2*i, m, 60))
	isNone(t, footed(b+index+f+f, n, i, n+i, m, 60))
	isNone(t, footed(b+index+f+f, n, i, n+i, 2*m, 60))
	isNone(t, footed(b+"\x00"+index+f, n+1, i, n+1+i, m, 60))
	isNone(t, footed(b+index+"\x00"+f, n, i, n+i+1, m, 60))
	isNone(t, footed(b+index+"\x00"+f, n, i+1, n+i+1, m, 60))
	isNone(t, footed(b+index+f+"\x00", n, i, n+i, m, 60))
	isNone(t, footed(b+index+f+"\x00", n, i, n+i, m+1, 60))
	isNone(t, footed("\x00"+b+index+f, n+1, i, n+1+i, m, 60))
	for at := range blocks { // blocks that the index does not name, or not in order
		isNone(t, footed(strings.Join(slices.Delete(slices.Clone(p.blocks), at, at+1), "")+index+f, n-len(p.blocks[at]), i, n-len(p.blocks[at])+i, m, 60))
		other := slices.Insert(slices.Clone(p.blocks), at, p.blocks[at])
		isNone(t, footed(strings.Join(other, "")+index+f, n+len(p.blocks[at]), i, n+len(p.blocks[at])+i, m, 60))
		q := partsOf(t, blocks...)
		q.index = slices.Delete(q.index, at, at+1)
		isNone(t, q.bytes())
		q.index = slices.Insert(slices.Clone(p.index), at, p.index[at])
		isNone(t, q.bytes())
		if at > 0 {
			q.index = slices.Clone(p.index)
			q.index[at-1], q.index[at] = q.index[at], q.index[at-1]
			isNone(t, q.bytes())
		}
	}
}

// P9.1: another number in the foot, also with the right sums.
func TestOpenOtherFoot(t *testing.T) {
	b := spelt(t, many(40))
	ahead, foot := b[:len(b)-28], b[len(b)-28:]
	for at := range 24 {
		for c := range 256 {
			other := []byte(foot[:24])
			if other[at] == byte(c) {
				continue
			}
			other[at] = byte(c)
			isNone(t, ahead+string(other)+four(sum(string(other))))
			isNone(t, ahead+string(other)+foot[24:])
		}
	}
	for turned := range 32 {
		isNone(t, ahead+foot[:24]+four(sum(foot[:24])^1<<turned))
		other := foot[:20] + four(sum(ahead)^1<<turned)
		isNone(t, ahead+other+four(sum(other)))
	}
	for _, n := range []int{0, 1, len(ahead) - 1, len(ahead), len(ahead) + 1, len(b), 1<<31 - 1, 1 << 31, 1<<32 - 1, 1<<32 - len(ahead)} {
		for _, size := range []int{0, 1, 8, len(ahead), len(b), 1<<31 - 1, 1 << 31, 1<<32 - 1, 1<<32 - n} {
			isNone(t, footed(ahead, n, size, len(ahead)-8, 8, 40))
			isNone(t, footed(ahead, len(ahead)-8, 8, n, size, 40))
		}
	}
	isNone(t, ahead+foot[:20]+foot[24:]+foot[20:24])
	isNone(t, ahead+foot+foot)
	isNone(t, ahead)
	isNone(t, foot)
}

// P9.1: another key, number, beginning or size in the index, or another form of it.
func TestOpenOtherIndex(t *testing.T) {
	good := partsOf(t, fill(list(put("b", 5, long(300)), put("c", 5, long(300)), put("d", 5, long(300))))...)
	size := uint64(len(good.blocks[0]))
	isTable(t, good.bytes())
	for _, x := range []string{
		at("b", 5, size, size), at("cc", 5, size, size), at("", 5, size, size), at("d", 5, size, size), at(long(33), 5, size, size), at("c", 4, size, size), at("c", 6, size, size), at("c", 0, size, size), at("c", 1<<32+5, size, size),
		at("c", 1<<63+5, size, size), at("c", math.MaxUint64, size, size), at("c", 5, 0, size), at("c", 5, size-1, size), at("c", 5, size+1, size), at("c", 5, 2*size, size), at("c", 5, 1<<32+size, size), at("c", 5, 1<<63+size, size),
		at("c", 5, size, 0), at("c", 5, size, size-1), at("c", 5, size, size+1), at("c", 5, size, 2*size), at("c", 5, size, 1<<31), at("c", 5, size, 1<<32+size), at("c", 5, size, 1<<63+size), at("c", 5, size, math.MaxUint64),
		at("c", 5, size, math.MaxUint64-size+1), "", "\x01", "\x01c", "\x01c\x05", "\x01c\x85\x00" + at("", 5, size, size)[2:], at("c", 5, size, size) + "\x00", "\x81\x00c" + at("", 5, size, size)[1:], "\x80" + at("c", 5, size, size),
	} {
		other := good
		other.index = slices.Clone(good.index)
		if x == other.index[1] {
			t.Fatalf("% x is right", x)
		}
		other.index[1] = x
		isNone(t, other.bytes())
	}
	isTable(t, good.bytes())
	blocks, index := strings.Join(good.blocks, ""), row(good.index...)
	for _, i := range []string{
		"", "\x00", "\x01", "\x03", index[1:], "\x83\x00" + index[1:], "\x02" + index[1:], "\x04" + index[1:], "\xff\xff\xff\xff\xff\xff\xff\xff\xff\x01" + index[1:], "\x80\x80\x04" + index[1:], "\x81\x20" + index[1:], index + "\x00", index + index,
		index[:len(index)-1], "\x03" + index[1:len(index)-1], "\x80\x20" + strings.Repeat(good.index[0], 4096), "\x81\x20" + strings.Repeat(good.index[0], 4097),
	} {
		isNone(t, footed(blocks+i+good.filter, len(blocks), len(i), len(blocks)+len(i), len(good.filter), 3))
	}
}

// P9.1: the entries are in other blocks than theirs.
func TestOpenOtherBlocks(t *testing.T) {
	l := many(50)
	blocks := fill(l)
	isTable(t, partsOf(t, blocks...).bytes())
	for i := range blocks {
		for n := 1; n < len(blocks[i]); n++ { // a block too many
			other := slices.Replace(slices.Clone(blocks), i, i+1, blocks[i][:n], blocks[i][n:])
			isNone(t, partsOf(t, other...).bytes())
			if i+1 < len(blocks) { // too few in one, the others in the next
				next := slices.Concat(blocks[i][n:], blocks[i+1])
				isNone(t, partsOf(t, slices.Replace(slices.Clone(blocks), i, i+2, blocks[i][:n], next)...).bytes())
			}
		}
		if i+1 < len(blocks) { // too many in one
			for n := 1; n <= len(blocks[i+1]); n++ {
				parts := [][]api.Entry{slices.Concat(blocks[i], blocks[i+1][:n])}
				if rest := blocks[i+1][n:]; len(rest) > 0 {
					parts = append(parts, rest)
				}
				isNone(t, partsOf(t, slices.Replace(slices.Clone(blocks), i, i+2, parts...)...).bytes())
			}
		}
	}
	isNone(t, partsOf(t, l).bytes())
}

// P9.1: blocks that are right in themselves, whose entries don't rise from one to the next.
func TestOpenWhatDoesNotRise(t *testing.T) {
	one := func(key string, seq int64) []api.Entry { return list(put(key, seq, long(500))) }
	isTable(t, partsOf(t, one("a", 5), one("b", 5), one("b", 4)).bytes())
	isNone(t, partsOf(t, one("b", 5), one("a", 5)).bytes())
	isNone(t, partsOf(t, one("a", 5), one("a", 5)).bytes())
	isNone(t, partsOf(t, one("a", 5), one("a", 6)).bytes())
	isNone(t, partsOf(t, one("a", 5), one("b", 5), one("a", 4)).bytes())
	blocks := fill(many(60))
	for i := range blocks {
		isNone(t, partsOf(t, slices.Insert(slices.Clone(blocks), i, blocks[i])...).bytes())
		if i > 0 {
			other := slices.Clone(blocks)
			other[i-1], other[i] = other[i], other[i-1]
			isNone(t, partsOf(t, other...).bytes())
		}
	}
}

// P9.1: what is no block, where a block should be.
func TestOpenOfWhatIsNoBlock(t *testing.T) {
	good := partsOf(t, fill(many(40))...)
	for i := range good.blocks {
		for _, x := range []string{"", "\x00", "\x00\x00\x00\x00", good.blocks[i] + "\x00", "\x00" + good.blocks[i], good.blocks[i][1:], good.blocks[i] + good.blocks[i]} {
			other := partsOf(t, fill(many(40))...)
			other.blocks[i] = x
			begin := 0
			for j, l := range fill(many(40)) {
				last := l[len(l)-1]
				other.index[j] = at(string(last.Key), uint64(last.Seq), uint64(begin), uint64(len(other.blocks[j])))
				begin += len(other.blocks[j])
			}
			isNone(t, other.bytes())
		}
	}
	for _, e := range []string{"\x00\x01a\x00\x02", "\x00\x01a\x05\x03", "\x00\x00\x05\x02", "\x01\x01a\x05\x02", "\x00\x01a\x05\x02\x01x"} {
		b := e + "\x00\x00\x00\x00\x00\x00\x00\x01"
		isNone(t, parts{blocks: []string{b}, index: []string{at("a", 5, 0, uint64(len(b)))}, filter: filterOf(map[string]int{"a": 1}), count: 1}.bytes())
	}
	b := "\x00\x01a\x05\x02" + "\x00\x00\x00\x00\x00\x00\x00\x01"
	isTable(t, parts{blocks: []string{b}, index: []string{at("a", 5, 0, 13)}, filter: filterOf(map[string]int{"a": 1}), count: 1}.bytes())
}

// P9.1: another filter, of other keys, of keys twice, or of more or fewer bytes.
func TestOpenOtherFilter(t *testing.T) {
	good := partsOf(t, list(put("a", 5, "x"), del("a", 3), del("b", 3)))
	isTable(t, good.bytes())
	keys := func(l ...string) string {
		m := map[string]int{}
		for _, key := range l {
			m[key]++
		}
		return filterOf(m)
	}
	others := []string{"", "\x00", good.filter + good.filter, good.filter + "\x00\x00\x00\x00\x00\x00\x00\x00", good.filter[:7], keys(), keys("a"), keys("b"), keys("a", "b", "c"), long(8), strings.Repeat("\x00", 8), strings.Repeat("\xff", 8), strings.Repeat("\xff", 1<<17)}
	for bit := range 64 {
		f := []byte(good.filter)
		f[bit/8] ^= 1 << (bit % 8)
		others = append(others, string(f))
	}
	for _, f := range others {
		other := good
		other.filter = f
		isNone(t, other.bytes())
	}
	eight := slices.Concat(versions("a", 5, 0), versions("b", 2, 0)) // each entry's key counted, the filter were of 16 bytes
	other := partsOf(t, eight)
	isTable(t, other.bytes())
	other.filter += strings.Repeat("\x00", 8)
	isNone(t, other.bytes())
}

// P9.1: another number of entries.
func TestOpenOtherCount(t *testing.T) {
	for _, n := range []int{0, 1, 99, 101, 200, 1 << 16, 1<<24 + 100, 1<<31 + 100, 1<<32 - 1} {
		p := partsOf(t, fill(many(100))...)
		p.count = n
		isNone(t, p.bytes())
	}
}

// P9.1, P0.9: great bytes that are no table's are refused soon, however much they claim.
func TestOpenOfGreatClaims(t *testing.T) {
	b, _ := block.Write(versions("k", 1024, 300)...)
	var index []string
	for range 4096 {
		index = append(index, at("k", 1, 0, uint64(len(b))))
	}
	isNone(t, parts{blocks: []string{string(b)}, index: index, filter: filterOf(map[string]int{"k": 1}), count: 4096 * 1024}.bytes())
	isNone(t, parts{blocks: []string{string(b)}, index: []string{at("k", 1, 0, uint64(len(b)))}, filter: filterOf(map[string]int{"k": 1}), count: 1024}.bytes())
	isNone(t, footed(strings.Repeat("\xff", 1<<20), 0, 1<<20, 1<<20, 0, 1<<31))
	isNone(t, footed(strings.Repeat("\x00", 1<<20), 0, 1<<20, 1<<20, 0, 0))
}

// P9.1: nothing of the bytes is kept; they stay as they are.
func TestOpenKeepsNothing(t *testing.T) {
	l := many(100)
	b := written(t, l...)
	want := string(b)
	at, _ := table.Open(b)
	over(at.All())
	if string(b) != want {
		t.Error("the bytes are changed")
	}
	clear(b)
	if got := over(at.All()); !same(got, l) || string(at.Bytes()) != want || !at.May(l[7].Key) {
		t.Errorf("the bytes are kept: %s", tellAll(got))
	}
	if e, no := at.Get(l[50].Key, l[50].Seq); !same(list(e), l[50:51]) || no != api.OK {
		t.Errorf("the bytes are kept: %s, %v", tell(e), no)
	}
}
