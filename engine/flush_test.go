package engine_test

import (
	"bytes"
	"slices"
	"strconv"
	"strings"
	"testing"

	"hectare/api"
	"hectare/compact"
	"hectare/disk"
	"hectare/edit"
	"hectare/engine"
	"hectare/merge"
	"hectare/table"
)

// P14.3: Sync: all of the log lasts.
func TestSync(t *testing.T) {
	e, d := made(t)
	want(t, "Sync", e.Sync(), api.OK)
	do(t, e, 1, "a=1")
	do(t, e, 2, "b=2")
	want(t, "Sync", e.Sync(), api.OK)
	if n, _ := d.Lasting("g1.log.2"); n == 0 || n != len(read(t, d, "g1.log.2")) {
		t.Errorf("%d bytes last", n)
	}
	do(t, e, 3, "c=3")
	has(t, opened(t, crash(t, d, nothing)), "a=1 b=2")
	has(t, opened(t, crash(t, d, everything)), "a=1 b=2 c=3")
	stands(t, e, 3, 0, 3, 18, 0)
	want(t, "Flush", e.Flush(), api.OK)
	do(t, e, 4, "d=4")
	want(t, "Sync", e.Sync(), api.OK)
	has(t, opened(t, crash(t, d, nothing)), "a=1 b=2 c=3 d=4")
}

// P14.3: Flush: a table, an edit, a new log; nothing where there is nothing.
func TestFlush(t *testing.T) {
	e, d := made(t)
	was := d.Copy()
	want(t, "Flush of nothing", e.Flush(), api.OK)
	if !disk.Same(was, d) {
		t.Errorf("a flush of nothing makes %s of %s", tellDisk(d), tellDisk(was))
	}
	do(t, e, 1, "b=1 a=2")
	want(t, "Flush", e.Flush(), api.OK)
	stands(t, e, 1, 1, 2, 0, 1)
	whole(t, e, d)
	has(t, e, "a=2 b=1")
	v := e.Version()
	was = d.Copy()
	want(t, "Flush again", e.Flush(), api.OK)
	if !disk.Same(was, d) || !edit.Same(v, e.Version()) {
		t.Errorf("a flush of nothing makes %s of %s", tellDisk(d), tellDisk(was))
	}
	has(t, opened(t, crash(t, d, nothing)), "a=2 b=1")
	do(t, e, 2, "a")
	want(t, "Flush", e.Flush(), api.OK)
	stands(t, e, 2, 2, 3, 0, 2)
	has(t, e, "b=1")
	l := edit.Of(e.Version(), 0)
	if len(l) != 2 || string(l[0].First) != "a" || string(l[0].Last) != "a" || l[0].Number < l[1].Number {
		t.Errorf("%+v", l)
	}
	has(t, opened(t, crash(t, d, nothing)), "b=1")
}

// P14.3: batches without entries: an edit alone.
func TestFlushOfNoEntries(t *testing.T) {
	e, d := made(t)
	do(t, e, 8, "")
	stands(t, e, 8, 0, 0, 0, 0)
	want(t, "Flush", e.Flush(), api.OK)
	stands(t, e, 8, 8, 0, 0, 0)
	whole(t, e, d)
	if len(read(t, d, number("log.", e.Version().Log))) > 0 {
		t.Error("the log has something yet")
	}
	stands(t, opened(t, crash(t, d, nothing)), 8, 8, 0, 0, 0)
}

// P14.3: of none ErrNil, of a refused one ErrState.
func TestSyncFlushCompactRefuse(t *testing.T) {
	calls := func(e *engine.Engine, why api.Errno) {
		t.Helper()
		want(t, "Sync", e.Sync(), why)
		want(t, "Flush", e.Flush(), why)
		is, no := e.Compact()
		want(t, "Compact", no, why)
		isZero(t, is)
	}
	for _, none := range nils() {
		calls(none, api.ErrNil)
	}
	refused, d := refusedEngine(t)
	was := d.Copy()
	calls(refused, api.ErrState)
	if !disk.Same(was, d) {
		t.Errorf("a refused engine makes %s of %s", tellDisk(d), tellDisk(was))
	}
}

// compacted is what a compaction makes of a version, as layers 9 to 12 have it: each table's entries, by number.
func compacted(t *testing.T, v api.Version, d *disk.Disk, memory int, level int64) (api.Version, map[int64]string, bool) {
	t.Helper()
	j, is := compact.Pick(v, level)
	if !is {
		return v, nil, false
	}
	var in [][]byte
	for _, at := range slices.Concat(j.In, j.Below) {
		in = append(in, read(t, d, number("t.", at.Number)))
	}
	out, no := compact.Run(j, in, v.Seq, memory)
	want(t, "Run", no, api.OK)
	change, no := compact.Edit(v, j, out)
	want(t, "Edit", no, api.OK)
	next, no := edit.Do(v, change)
	want(t, "edit.Do", no, api.OK)
	tables := map[int64]string{}
	for i, at := range change.Add {
		tables[at.Number] = string(out[i])
	}
	return next, tables, true
}

// P14.3: Compact does what is next, to the byte, with parts of at most memory bytes, until nothing is; what is in memory stays there.
func TestCompact(t *testing.T) {
	t.Parallel()
	jobs := map[int]int{}
	for seed := range uint32(8) {
		next := chance(seed)
		memory, level, keys := 64+next(100), int64(256+next(400)), 30
		if seed%2 > 0 {
			level, keys = 256, 200
		}
		d := roomy(t)
		e := openedAs(t, d, memory, level)
		m := moment{pairs: map[string]string{}}
		for i := range int64(200) {
			b := someBatch(next, i+1, keys)
			want(t, "Do", e.Do(b), api.OK)
			m = m.behind(b)
			for next(3) == 0 {
				v, memoryIs := e.Version(), e.At().Memory
				wantV, tables, want1 := compacted(t, v, d, memory, level)
				got, no := e.Compact()
				if no != api.OK || got != want1 {
					t.Fatalf("Compact: %v, %v; want %v", got, no, want1)
				}
				w := e.Version()
				if w.Next = max(w.Next, wantV.Next); w.Next > wantV.Next+1 { // a new manifest takes a number, too
					t.Fatalf("%+v, want %+v", w, wantV)
				}
				wantV.Next = w.Next
				if !edit.Same(w, wantV) || e.At().Memory != memoryIs {
					t.Fatalf("%+v, want %+v", w, wantV)
				}
				for n, form := range tables {
					if string(read(t, d, number("t.", n))) != form {
						t.Fatalf("the table %d is another one", n)
					}
				}
				whole(t, e, d)
				is(t, e, m)
				if !got {
					jobs[-1]++
					break
				}
				j, _ := compact.Pick(v, level)
				jobs[j.Level]++
			}
		}
	}
	if jobs[-1] < 20 || jobs[0] < 20 || jobs[1] < 20 || jobs[2] < 3 {
		t.Errorf("jobs: %v", jobs)
	}
}

// someBatch is any batch of so many keys.
func someBatch(next func(int) int, index int64, keys int) api.Batch {
	b := api.Batch{Index: index}
	at := map[string]int{}
	for range next(6) {
		key := "k" + strconv.Itoa(next(keys))
		if at[key] > 0 {
			continue
		}
		at[key] = 1
		one := api.Entry{Key: []byte(key), Kind: api.KindDelete}
		if next(4) > 0 {
			one.Kind, one.Value = api.KindPut, []byte(strings.Repeat(strconv.Itoa(next(10)), next(15)))
		}
		b.Entries = append(b.Entries, one)
	}
	return b
}

// P14.3: what nobody needs goes: with the greatest number as floor one entry a key is left, and no delete at the bottom, also where the elder ones were read at numbers between.
func TestCompactDrops(t *testing.T) {
	e, d := made(t)
	for i := range int64(8) {
		do(t, e, 2*i+1, "a="+strconv.FormatInt(i, 10)+" b=1")
		do(t, e, 2*i+2, "b")
		want(t, "Flush", e.Flush(), api.OK)
		if i < 3 {
			is, no := e.Compact()
			if is || no != api.OK {
				t.Fatalf("Compact of %d tables: %v, %v", i+1, is, no)
			}
		}
	}
	is, no := e.Compact()
	if !is || no != api.OK {
		t.Fatal(is, no)
	}
	v := e.Version()
	if len(v.Tables) != 1 || v.Tables[0].Level != 1 {
		t.Fatalf("%+v", v)
	}
	got, _ := table.Open(read(t, d, number("t.", v.Tables[0].Number)))
	if l := slices.Collect(got.All()); len(l) != 1 || string(l[0].Key) != "a" || l[0].Seq != 22 || !merge.Rising(got.All()) {
		t.Errorf("%+v", l)
	}
	has(t, e, "a=7")
	whole(t, e, d)
	is, no = e.Compact()
	if is || no != api.OK {
		t.Error(is, no)
	}
}

// P14.3: all that is run together may go: no table is left.
func TestCompactToNothing(t *testing.T) {
	e, d := made(t)
	for i := range int64(4) {
		do(t, e, i+1, "a b c")
		want(t, "Flush", e.Flush(), api.OK)
	}
	is, no := e.Compact()
	if !is || no != api.OK {
		t.Fatal(is, no)
	}
	stands(t, e, 4, 4, 12, 0, 0)
	whole(t, e, d)
	has(t, opened(t, crash(t, d, nothing)), "")
}

// P14.3: an edit is written behind the manifest's bytes; once that has come to more than 4096 bytes there is a new one, of the whole version, and the elder one goes.
func TestManifest(t *testing.T) {
	t.Parallel()
	for _, more := range []string{"", "a", "a b c"} {
		e, d := made(t)
		name, was := manifestOf(t, d), read(t, d, manifestOf(t, d))
		news := 0
		for i := range int64(400) {
			before := e.Version()
			if more == "" {
				do(t, e, i+1, "")
			} else {
				do(t, e, i+1, strings.ReplaceAll(more, "a", "k"+strconv.FormatInt(i%7, 10)))
			}
			want(t, "Flush", e.Flush(), api.OK)
			whole(t, e, d)
			v := e.Version()
			change := api.Edit{Next: v.Next, Log: v.Log, Index: v.Index, Seq: v.Seq}
			for _, at := range v.Tables {
				if at.Number >= before.Next {
					change.Add = append(change.Add, at)
				}
			}
			got, now := read(t, d, manifestOf(t, d)), manifestOf(t, d)
			frame, _ := edit.Put(change)
			if now == name {
				if string(got) != string(was)+string(frame) || len(got) > 4096 {
					t.Fatalf("%d bytes behind %d", len(got), len(was))
				}
			} else {
				all, _ := edit.Whole(v)
				form, _ := edit.Put(all)
				change.Next--
				frame, _ := edit.Put(change)
				if string(got) != string(form) || len(was)+len(frame) <= 4096 {
					t.Fatalf("%d bytes behind %d, and %d", len(got), len(was), len(frame))
				}
				if now != number("edits.", v.Next-1) {
					t.Fatalf("%s, %+v", now, v)
				}
				news++
			}
			name, was = now, got
			if i%100 == 99 {
				for is := true; is; {
					is, _ = e.Compact()
				}
				whole(t, e, d)
				e = opened(t, d)
				name, was = manifestOf(t, d), read(t, d, manifestOf(t, d))
				if len(e.Version().Tables) > 90 {
					break
				}
			}
		}
		if news < 1 {
			t.Errorf("%q: no new manifest", more)
		}
	}
}

// P14.3: a manifest of 4096 bytes stays; of one more there is a new one.
func TestManifestAtItsBound(t *testing.T) {
	frame, _ := edit.Put(api.Edit{Next: 4, Log: 3, Index: 1, Seq: 200}) // of a flush of a batch without entries
	longer, _ := edit.Put(api.Edit{Next: 3, Log: 2, Seq: 200})          // by a byte than that of a new engine
	for _, size := range []int{4095, 4096, 4097, 4098} {
		_, d := made(t)
		shorter := read(t, d, "g1.edits.1")
		rest := size - len(frame) - len(longer)
		write(t, d, "g1.edits.1", slices.Concat(bytes.Repeat(shorter, rest/14-rest%14), bytes.Repeat(longer, 1+rest%14)))
		e := opened(t, d)
		do(t, e, 1, "")
		want(t, "Flush", e.Flush(), api.OK)
		whole(t, e, d)
		if got := len(read(t, d, manifestOf(t, d))); (got == size) != (size <= 4096) || (manifestOf(t, d) == "g1.edits.1") != (size <= 4096) {
			t.Errorf("%d bytes become %d", size, got)
		}
	}
}
