package engine_test

import (
	"math"
	"strconv"
	"strings"
	"testing"

	"hectare/api"
	"hectare/disk"
	"hectare/edit"
	"hectare/table"
)

// P14.4: Take: the pairs, with the batch's entries, are a table at the level 0; what was in memory is flushed ahead.
func TestTake(t *testing.T) {
	e, d := made(t)
	do(t, e, 1, "a=1 d=1 m=1 z=1")
	want(t, "Take", e.Take(batch(5, "m=5 a"), pairs("b=5 d=5 e=")), api.OK)
	has(t, e, "b=5 d=5 e= m=5 z=1")
	hasNot(t, e, "a")
	stands(t, e, 5, 5, 9, 0, 2)
	whole(t, e, d)
	l := edit.Of(e.Version(), 0)
	if len(l) != 2 || string(l[0].First) != "a" || string(l[0].Last) != "m" || string(l[1].Last) != "z" {
		t.Fatalf("%+v", l)
	}
	got, _ := table.Open(read(t, d, number("t.", l[0].Number)))
	if got.Len() != 5 {
		t.Errorf("%d entries", got.Len())
	}
	has(t, opened(t, crash(t, d, nothing)), "b=5 d=5 e= m=5 z=1")
	if len(read(t, d, number("log.", e.Version().Log))) > 0 {
		t.Error("the log has what is flushed")
	}
	do(t, e, 6, "b=6")
	has(t, opened(t, crash(t, d, everything)), "b=6 d=5 e= m=5 z=1")
	has(t, opened(t, crash(t, d, nothing)), "b=5 d=5 e= m=5 z=1")
}

// P14.4: Take of no pairs, of no entries, of neither; of an engine without anything in memory.
func TestTakeOfNothing(t *testing.T) {
	e, d := made(t)
	want(t, "Take", e.Take(batch(2, ""), nil), api.OK)
	stands(t, e, 2, 2, 0, 0, 0)
	whole(t, e, d)
	log := e.Version().Log
	want(t, "Take", e.Take(batch(3, "a=1"), []api.Pair{}), api.OK)
	stands(t, e, 3, 3, 1, 0, 1)
	want(t, "Take", e.Take(batch(4, ""), pairs("b=2")), api.OK)
	stands(t, e, 4, 4, 2, 0, 2)
	if e.Version().Log != log {
		t.Error("nothing was to flush, and there is a new log")
	}
	do(t, e, 7, "")
	want(t, "Take", e.Take(batch(9, ""), nil), api.OK)
	stands(t, e, 9, 9, 2, 0, 2)
	whole(t, e, d)
	has(t, e, "a=1 b=2")
	has(t, opened(t, crash(t, d, nothing)), "a=1 b=2")
	stands(t, opened(t, d), 9, 9, 2, 0, 2)
}

// P14.4: by one edit: either all of it is there, or nothing; each frame of the manifest is one.
func TestTakeIsOneEdit(t *testing.T) {
	e, d := made(t)
	do(t, e, 1, "a=1")
	want(t, "Flush", e.Flush(), api.OK)
	before := len(read(t, d, "g1.edits.1"))
	want(t, "Take", e.Take(batch(2, "c=1"), pairs("b=1 d=1")), api.OK)
	b := read(t, d, "g1.edits.1")
	for n := before; n < len(b); n++ {
		if v, size, well := edit.Read(b[:n]); v.Index != 1 || len(v.Tables) != 1 || size != before || !well {
			t.Fatalf("%d bytes: %+v", n, v)
		}
	}
	before = len(b)
	want(t, "Replace", e.Replace(3, pairs("x=1")), api.OK)
	b = read(t, d, "g1.edits.1")
	for n := before; n < len(b); n++ {
		if v, size, well := edit.Read(b[:n]); v.Index != 2 || len(v.Tables) != 2 || size != before || !well {
			t.Fatalf("%d bytes: %+v", n, v)
		}
	}
}

// wrongPairs are such as do not rise, or may not be.
func wrongPairs() [][]api.Pair {
	long, blob := strings.Repeat("k", 33), strings.Repeat("v", 65537)
	return [][]api.Pair{
		pairs("b=1 a=1"), pairs("a=1 a=1"), pairs("a=1 a=2 b=1"), pairs("a=1 b=1 b=1"), pairs("a=1 c=1 b=1"), pairs("a=1 aa=1 a\x00=1"),
		{{Value: []byte("1")}}, {{}, {Key: []byte("a")}}, pairs(long + "=1"), pairs("a=1 " + long + "=1"), pairs("a=" + blob), pairs("a=1 b=" + blob),
	}
}

// P14.4: Take refuses as Do does, and pairs that do not rise, or a key of them in the batch.
func TestTakeRefuses(t *testing.T) {
	e, d := made(t)
	do(t, e, 5, "a=0 b=0")
	was := d.Copy()
	refuses := func(b api.Batch, l []api.Pair) {
		t.Helper()
		want(t, "Take", e.Take(b, l), api.ErrArg)
		for _, none := range nils() {
			want(t, "Take of none", none.Take(b, l), api.ErrNil)
		}
	}
	for _, b := range wrongBatches() {
		refuses(b, pairs("x=1"))
		refuses(b, nil)
	}
	for _, l := range wrongPairs() {
		refuses(batch(6, "x=1"), l)
		refuses(batch(6, ""), l)
	}
	refuses(batch(6, "x=1"), pairs("a=1 x=1"))
	refuses(batch(6, "a"), pairs("a=1 x=1"))
	refuses(batch(6, "z=1 m"), pairs("a=1 m=1 x=1"))
	stands(t, e, 5, 0, 2, 12, 0)
	has(t, e, "a=0 b=0")
	if !disk.Same(was, d) {
		t.Errorf("what is refused makes %s of %s", tellDisk(d), tellDisk(was))
	}
	refused, _ := refusedEngine(t)
	want(t, "Take of a refused engine", refused.Take(batch(6, "x=1"), pairs("a=1")), api.ErrState)
	want(t, "Take of a refused engine", refused.Take(batch(6, "x=1"), pairs("x=1")), api.ErrArg)
	for _, none := range nils() {
		want(t, "Take of none", none.Take(batch(6, "x=1"), pairs("a=1")), api.ErrNil)
	}
}

// P14.4: Replace: the pairs are all that there is, and the place is index.
func TestReplace(t *testing.T) {
	for _, index := range []int64{9, 10, 5000, api.MaxNumber} {
		for _, l := range []string{"b=1 c= zz=2", "a=1", ""} {
			e := layered(t)
			do(t, e, 9, "q=1")
			seq, n := e.At().Seq, len(pairs(l))
			tables := min(n, 1)
			want(t, "Replace", e.Replace(index, pairs(l)), api.OK)
			has(t, e, l)
			hasNot(t, e, "q", "d", "k")
			stands(t, e, index, index, seq+int64(n), 0, tables)
			if l := edit.Of(e.Version(), 0); len(l) != tables {
				t.Errorf("%+v", l)
			}
		}
	}
}

// P14.4: behind a Replace it goes on: nothing of what was comes back, whatever a crash leaves.
func TestReplaceGoesOn(t *testing.T) {
	e, d := made(t)
	do(t, e, 3, "a=1 b=1")
	want(t, "Flush", e.Flush(), api.OK)
	do(t, e, 4, "a=2 c=2")
	want(t, "Replace", e.Replace(4, pairs("b=4 x=4")), api.OK)
	whole(t, e, d)
	stands(t, e, 4, 4, 6, 0, 1)
	if len(read(t, d, number("log.", e.Version().Log))) > 0 {
		t.Error("the log has what went")
	}
	has(t, opened(t, crash(t, d, nothing)), "b=4 x=4")
	has(t, opened(t, crash(t, d, everything)), "b=4 x=4")
	want(t, "Do", e.Do(batch(4, "a=1")), api.ErrArg)
	do(t, e, 5, "b c=5")
	has(t, e, "c=5 x=4")
	has(t, opened(t, crash(t, d, nothing)), "b=4 x=4")
	has(t, opened(t, crash(t, d, everything)), "c=5 x=4")
	stands(t, opened(t, crash(t, d, everything)), 5, 5, 8, 0, 2)
	want(t, "Replace", e.Replace(7, nil), api.OK)
	stands(t, e, 7, 7, 8, 0, 0)
	whole(t, e, d)
	has(t, opened(t, crash(t, d, everything)), "")
}

// P14.4: Replace of a new engine at the place 0.
func TestReplaceAtFirst(t *testing.T) {
	e, d := made(t)
	want(t, "Replace", e.Replace(0, pairs("a=1")), api.OK)
	stands(t, e, 0, 0, 1, 0, 1)
	has(t, opened(t, crash(t, d, nothing)), "a=1")
	want(t, "Replace", e.Replace(0, nil), api.OK)
	stands(t, e, 0, 0, 1, 0, 0)
	do(t, e, 1, "b=1")
	has(t, opened(t, crash(t, d, everything)), "b=1")
}

// P14.4: Replace refuses a place below the engine's, one that none may be, and pairs that do not rise.
func TestReplaceRefuses(t *testing.T) {
	e, d := made(t)
	do(t, e, 3, "a=0")
	want(t, "Flush", e.Flush(), api.OK)
	do(t, e, 5, "a=0 b=0")
	was := d.Copy()
	refuses := func(index int64, l []api.Pair) {
		t.Helper()
		want(t, "Replace", e.Replace(index, l), api.ErrArg)
		for _, none := range nils() {
			want(t, "Replace of none", none.Replace(index, l), api.ErrNil)
		}
	}
	for _, index := range []int64{4, 3, 0, -1, math.MinInt64, api.MaxNumber + 1, math.MaxInt64} {
		refuses(index, pairs("a=1 b=1"))
		refuses(index, nil)
	}
	for _, l := range wrongPairs() {
		refuses(6, l)
	}
	stands(t, e, 5, 3, 3, 12, 1)
	if !disk.Same(was, d) {
		t.Errorf("what is refused makes %s of %s", tellDisk(d), tellDisk(was))
	}
	refused, _ := refusedEngine(t)
	want(t, "Replace of a refused engine", refused.Replace(6, pairs("a=1")), api.ErrState)
	want(t, "Replace of a refused engine", refused.Replace(4, pairs("a=1")), api.ErrArg)
	for _, none := range nils() {
		want(t, "Replace of none", none.Replace(6, pairs("a=1")), api.ErrNil)
	}
}

// P14.4: more pairs than a table takes.
func TestManyPairs(t *testing.T) {
	t.Parallel()
	var words []string
	for i := range 10000 {
		words = append(words, "k"+strconv.Itoa(100000+i)+"="+strconv.Itoa(i))
	}
	all := strings.Join(words, " ")
	e, d := made(t)
	do(t, e, 1, "k100001=x z=1")
	want(t, "Take", e.Take(batch(2, "k=1"), pairs(all)), api.OK)
	stands(t, e, 2, 2, 10003, 0, 4)
	if got := tell(e); got != "k=1 "+all+" z=1" {
		t.Errorf("%.99s", got)
	}
	whole(t, e, d)
	want(t, "Replace", e.Replace(9, pairs(all)), api.OK)
	stands(t, e, 9, 9, 20003, 0, 3)
	e = opened(t, crash(t, d, nothing))
	if got := tell(e); got != all {
		t.Errorf("%.99s", got)
	}
}
