package engine_test

import (
	"bytes"
	"math"
	"slices"
	"strconv"
	"strings"
	"testing"

	"hectare/api"
	"hectare/disk"
	"hectare/edit"
	"hectare/engine"
	"hectare/table"
	"hectare/wal"
)

// The chapter's examples.
func TestExamples(t *testing.T) {
	e, d := made(t)
	stands(t, e, 0, 0, 0, 0, 0)
	do(t, e, 1, "a=1 b=2")
	do(t, e, 2, "a=3 b")
	has(t, e, "a=3")
	hasNot(t, e, "b")
	want(t, "Do 2 again", e.Do(batch(2, "c=1")), api.ErrArg)
	want(t, "Flush", e.Flush(), api.OK)
	stands(t, e, 2, 2, 4, 0, 1)
	d = crash(t, d, nothing)
	e = opened(t, d)
	stands(t, e, 2, 2, 4, 0, 1)
	do(t, e, 3, "c=4")
	d = crash(t, d, nothing)
	e = opened(t, d)
	stands(t, e, 2, 2, 4, 0, 1)
	do(t, e, 3, "c=4")
	want(t, "Take", e.Take(batch(4, "m=1"), pairs("d=5 e=6")), api.OK)
	if got := tellScan(e, "b", "", false); got != "c=4 d=5 e=6 m=1" {
		t.Error(got)
	}
	stands(t, e, 4, 4, 8, 0, 3)
	whole(t, e, d)
}

// P14.1: each entry gets the next number, whatever its own; the batch stands in the log so.
func TestDo(t *testing.T) {
	e, d := made(t)
	b := batch(7, "b=1 a= c")
	for i := range b.Entries {
		b.Entries[i].Seq = []int64{-5, 0, math.MaxInt64}[i]
	}
	want(t, "Do", e.Do(b), api.OK)
	stands(t, e, 7, 0, 3, 15, 0)
	do(t, e, 8, "b a=2")
	stands(t, e, 8, 0, 5, 25, 0)
	do(t, e, 19, "")
	stands(t, e, 19, 0, 5, 25, 0)
	has(t, e, "a=2")
	hasNot(t, e, "b", "c")
	log := logOf(t, at(1, batch(7, "b=1 a= c")), at(4, batch(8, "b a=2")), batch(19, ""))
	if got := read(t, d, "g1.log.2"); !bytes.Equal(got, log) {
		t.Errorf("log: % x, want % x", got, log)
	}
	if n, _ := d.Lasting("g1.log.2"); n != 0 {
		t.Errorf("%d bytes of the log last", n)
	}
	whole(t, e, d)
	has(t, opened(t, d), "a=2")
}

// wrongBatches are such as may not be done to an engine at the place 5.
func wrongBatches() []api.Batch {
	long, blob := strings.Repeat("k", 33), strings.Repeat("v", 65537)
	kinds := batch(6, "a=1 b=2")
	kinds.Entries[1].Kind = 0
	three := batch(6, "a=1 b=2")
	three.Entries[0].Kind = 3
	value := batch(6, "a=1 b")
	value.Entries[1].Value = []byte("x")
	noKey := api.Batch{Index: 6, Entries: []api.Entry{{Kind: api.KindPut, Value: []byte("x")}}}
	many := api.Batch{Index: 6}
	for i := range api.MaxList + 1 {
		many.Entries = append(many.Entries, api.Entry{Key: []byte{byte(i), byte(i >> 8), byte(i >> 16)}, Kind: api.KindDelete})
	}
	return []api.Batch{
		batch(5, "a=1"), batch(4, "a=1"), batch(0, ""), batch(-1, "a=1"), batch(math.MinInt64, ""), batch(api.MaxNumber+1, "a=1"), batch(math.MaxInt64, ""),
		batch(6, "a=1 a=1"), batch(6, "a=1 a"), batch(6, "a a"), batch(6, "b=1 a=1 c=1 b=2"), batch(6, "b=1 a=1 c=1 d b"),
		batch(6, long+"=1"), batch(6, "a=1 "+long), batch(6, "a="+blob), kinds, three, value, noKey, many, {},
	}
}

// P14.1: what may not be done: ErrArg, and nothing is done; of a refused engine, too; of none ErrNil.
func TestDoRefuses(t *testing.T) {
	e, d := made(t)
	do(t, e, 5, "a=0 b=0")
	was := d.Copy()
	for _, b := range wrongBatches() {
		if no := e.Do(b); no != api.ErrArg {
			t.Errorf("Do(%d, %d entries): %v", b.Index, len(b.Entries), no)
		}
		for _, none := range nils() {
			want(t, "Do of none", none.Do(b), api.ErrNil)
		}
	}
	for _, none := range nils() {
		want(t, "Do of none", none.Do(batch(6, "a=1")), api.ErrNil)
	}
	stands(t, e, 5, 0, 2, 12, 0)
	has(t, e, "a=0 b=0")
	if !disk.Same(was, d) {
		t.Errorf("refused batches make %s of %s", tellDisk(d), tellDisk(was))
	}
	do(t, e, 6, strings.Repeat("k", 32)+"=1 "+strings.Repeat("j", 32))
	refused, _ := refusedEngine(t)
	for _, b := range wrongBatches() {
		want(t, "Do of a refused engine", refused.Do(b), api.ErrArg)
	}
}

// refusedEngine is an engine at the place 5 that was refused a write, and its disk, which has room again.
func refusedEngine(t *testing.T) (*engine.Engine, *disk.Disk) {
	t.Helper()
	e, d := made(t)
	do(t, e, 5, "a=0 b=0")
	write(t, d, "other", make([]byte, d.Room()-d.Used()))
	want(t, "Do without room", e.Do(batch(6, "a=1")), api.ErrFull)
	d.Remove("other")
	return e, d
}

// P14.1: the greatest place, and the greatest of what a batch may have.
func TestDoAtEdges(t *testing.T) {
	e, d := made(t)
	blob := strings.Repeat("v", 65536)
	do(t, e, api.MaxNumber, strings.Repeat("k", 32)+"="+blob)
	has(t, e, strings.Repeat("k", 32)+"="+blob)
	want(t, "Do", e.Do(batch(api.MaxNumber, "a=1")), api.ErrArg)
	whole(t, e, d)
	stands(t, e, api.MaxNumber, api.MaxNumber, 1, 0, 1)
}

// P14.1: more entries than one table takes: all of them are there, in tables at the level 0.
func TestDoOfManyEntries(t *testing.T) {
	t.Parallel()
	for _, n := range []int{4096, 4097, 9000} {
		e, d := made(t)
		do(t, e, 1, "00005=old zz=1")
		b := api.Batch{Index: 2}
		var texts []string
		for i := range n {
			key := strconv.Itoa(i)
			key = strings.Repeat("0", 5-len(key)) + key
			b.Entries = append(b.Entries, api.Entry{Key: []byte(key), Kind: api.KindPut})
			texts = append(texts, key+"=")
		}
		texts = append(texts, "zz=1")
		slices.Reverse(b.Entries)
		want(t, "Do", e.Do(b), api.OK)
		stands(t, e, 2, 2, int64(n)+2, 0, (n+2+4095)/4096)
		if got := tell(e); got != strings.Join(texts, " ") {
			t.Errorf("%d entries: %d bytes", n, len(got))
		}
		for _, i := range []int{0, 5, 4094, 4095} {
			if value, is, no := e.Get(b.Entries[n-1-i].Key); len(value) > 0 || !is || no != api.OK {
				t.Errorf("Get %d: %q, %v, %v", i, value, is, no)
			}
		}
		whole(t, e, d)
		e = opened(t, d)
		for is := true; is; {
			is, _ = e.Compact()
		}
		if got := tell(e); got != strings.Join(texts, " ") {
			t.Errorf("%d entries, compacted: %d bytes", n, len(got))
		}
	}
}

// P14.1: behind a batch with which the table in memory has come to its bytes a flush is done, and not ahead of that.
func TestDoFlushes(t *testing.T) {
	for memory := 64; memory < 90; memory++ {
		for _, size := range []int{memory - 1, memory, memory + 1} {
			d := roomy(t)
			e := openedAs(t, d, memory, 256)
			do(t, e, 1, "a=12345678901234") // 19 bytes
			stands(t, e, 1, 0, 1, 19, 0)
			do(t, e, 2, "b=12345678901234 c=1 d") // 19, 6, 4
			stands(t, e, 2, 0, 4, 48, 0)
			do(t, e, 3, "e="+strings.Repeat("x", size-53))
			if size < memory {
				stands(t, e, 3, 0, 5, size, 0)
				if got := read(t, d, "g1.log.2"); len(got) == 0 {
					t.Error("the log went ahead of a flush")
				}
			} else {
				stands(t, e, 3, 3, 5, 0, 1)
			}
			whole(t, e, d)
			has(t, e, "a=12345678901234 b=12345678901234 c=1 e="+strings.Repeat("x", size-53))
			hasNot(t, e, "d")
		}
	}
}

// P14.1: the flushed table has all that was in memory, at the level 0; the elder log went.
func TestDoFlushesAll(t *testing.T) {
	e, d := made(t)
	do(t, e, 3, "b=1 a=1")
	do(t, e, 4, "b")
	do(t, e, 9, "a=3 c="+strings.Repeat("x", 40))
	v := e.Version()
	if len(v.Tables) != 1 || v.Tables[0].Level != 0 || v.Index != 9 || v.Seq != 5 || string(v.Tables[0].First) != "a" || string(v.Tables[0].Last) != "c" {
		t.Fatalf("%+v", v)
	}
	got, no := table.Open(read(t, d, number("t.", v.Tables[0].Number)))
	want(t, "the table", no, api.OK)
	var words []string
	for one := range got.All() {
		words = append(words, string(one.Key)+strconv.FormatInt(one.Seq, 10)+"="+string(one.Value))
	}
	if text := strings.Join(words, " "); text != "a4=3 a2=1 b3= b1=1 c5="+strings.Repeat("x", 40) {
		t.Error(text)
	}
	if len(read(t, d, number("log.", v.Log))) > 0 || v.Log == 2 {
		t.Errorf("%+v; %s", v, tellDisk(d))
	}
	whole(t, e, d)
	do(t, e, 10, "d=1")
	if l, n, well := wal.Batches(read(t, d, number("log.", v.Log))); len(l) != 1 || n == 0 || !well || l[0].Index != 10 || l[0].Entries[0].Seq != 6 {
		t.Errorf("%+v", l)
	}
}

// P14.1: what is handed in stays the caller's: it is not changed, nor kept.
func TestDoLeavesWhatItIsGiven(t *testing.T) {
	for _, memory := range []int{64, 4096} {
		d := roomy(t)
		e := openedAs(t, d, memory, 256)
		b := batch(1, "b=1 a=2 c=3 d")
		b.Entries[1].Seq = 77
		b.Entries[0].Value = []byte(strings.Repeat("x", 60))
		l := []api.Pair{{Key: []byte("m"), Value: []byte("5")}}
		want(t, "Do", e.Do(b), api.OK)
		b.Index = 2
		want(t, "Take", e.Take(b, l), api.OK)
		if b.Entries[1].Seq != 77 || b.Entries[0].Seq != 0 || string(b.Entries[1].Key) != "a" || string(l[0].Key) != "m" {
			t.Errorf("%+v", b)
		}
		b.Index = 3
		want(t, "Do", e.Do(b), api.OK)
		for _, one := range b.Entries {
			one.Key[0] = 'z'
			clear(one.Value)
		}
		clear(l[0].Key)
		clear(l[0].Value)
		clear(b.Entries)
		clear(l)
		has(t, e, "a=2 b="+strings.Repeat("x", 60)+" c=3 m=5")
		for range 3 {
			e.Compact()
			e.Flush()
		}
		has(t, e, "a=2 b="+strings.Repeat("x", 60)+" c=3 m=5")
		want(t, "Replace", e.Replace(4, pairs("q=1 r=2")), api.OK)
		all := pairs("s=1 t=2")
		want(t, "Replace", e.Replace(5, all), api.OK)
		all[0].Key[0], all[0].Value[0] = 'x', 'x'
		clear(all)
		has(t, e, "s=1 t=2")
		has(t, openedAs(t, d, memory, 256), "s=1 t=2")
	}
}

// lastNumbers is the disk of an engine whose next numbers are these.
func lastNumbers(t *testing.T, next, seq int64) *disk.Disk {
	t.Helper()
	_, d := made(t)
	frame, no := edit.Put(api.Edit{Next: next, Log: 2, Seq: seq})
	want(t, "Put", no, api.OK)
	want(t, "Append", d.Append("g1.edits.1", frame), api.OK)
	return d
}

// P0.8: where the numbers come to their end, that is told as an error.
func TestLastNumbers(t *testing.T) {
	d := lastNumbers(t, 9, api.MaxNumber-2)
	e := opened(t, d)
	want(t, "Do", e.Do(batch(1, "a=1 b=1 c=1")), api.ErrArg)
	want(t, "Take", e.Take(batch(1, "a=1"), pairs("b=1 c=1")), api.ErrArg)
	want(t, "Replace", e.Replace(1, pairs("a=1 b=1 c=1")), api.ErrArg)
	do(t, e, 1, "a=1 b=1")
	do(t, e, 2, "")
	want(t, "Do", e.Do(batch(3, "a=1")), api.ErrArg)
	want(t, "Flush", e.Flush(), api.OK)
	has(t, opened(t, d), "a=1 b=1")

	d = lastNumbers(t, api.MaxNumber-2, 0)
	e = opened(t, d)
	do(t, e, 1, "a=1 b=1")
	want(t, "Flush", e.Flush(), api.OK)
	whole(t, e, d)
	do(t, e, 2, "a=2")
	was := d.Copy()
	want(t, "Flush", e.Flush(), api.ErrFull)
	want(t, "Get", e.Sync(), api.ErrState)
	if !disk.Same(was, d) {
		t.Errorf("%s becomes %s", tellDisk(was), tellDisk(d))
	}
	if e, no := engine.Open(d, prefix, 64, 256); e != nil || no != api.ErrFull {
		t.Errorf("Open: %v, %v", e, no)
	}
	want(t, "Append", d.Append(manifestOf(t, d), []byte("torn")), api.OK)
	if e, no := engine.Open(d, prefix, 64, 256); e != nil || no != api.ErrFull {
		t.Errorf("Open: %v, %v", e, no)
	}

	d = lastNumbers(t, api.MaxNumber, 0)
	was = d.Copy()
	e = opened(t, d)
	if !disk.Same(was, d) {
		t.Errorf("%s becomes %s", tellDisk(was), tellDisk(d))
	}
	do(t, e, 1, "a=1")
	want(t, "Append", was.Append("g1.edits.1", []byte("torn")), api.OK) // a new manifest would need a number
	if e, no := engine.Open(was, prefix, 64, 256); e != nil || no != api.ErrFull {
		t.Errorf("Open: %v, %v", e, no)
	}

	d = lastNumbers(t, api.MaxNumber-8, 0)
	e = opened(t, d)
	for i := range int64(4) {
		do(t, e, i+1, "a=1")
		want(t, "Flush", e.Flush(), api.OK)
	}
	is, no := e.Compact()
	want(t, "Compact", no, api.ErrFull)
	isZero(t, is)
}
