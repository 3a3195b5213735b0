package engine_test

import (
	"math"
	"strings"
	"testing"

	"hectare/api"
	"hectare/disk"
	"hectare/edit"
	"hectare/engine"
	"hectare/wal"
)

// P14.1: a new engine: the manifest 1, the log 2, Next 3.
func TestOpenNew(t *testing.T) {
	e, d := made(t)
	stands(t, e, 0, 0, 0, 0, 0)
	if v := e.Version(); !edit.Same(v, api.Version{Next: 3, Log: 2}) {
		t.Errorf("%+v", v)
	}
	if got := tellDisk(d); got != "g1.cur:10 g1.edits.1:14 g1.log.2:0" {
		t.Error(got)
	}
	if got := string(read(t, d, "g1.cur")); got != "g1.edits.1" {
		t.Errorf("cur: %q", got)
	}
	frame, _ := edit.Put(api.Edit{Next: 3, Log: 2})
	if got := read(t, d, "g1.edits.1"); string(got) != string(frame) {
		t.Errorf("% x, want % x", got, frame)
	}
	whole(t, e, d)
	has(t, e, "")
	after := crash(t, d, nothing)
	if !disk.Same(after, d) {
		t.Errorf("a crash leaves %s of %s", tellDisk(after), tellDisk(d))
	}
	e = opened(t, after)
	stands(t, e, 0, 0, 0, 0, 0)
	if !disk.Same(after, d) {
		t.Errorf("an opening of what is well makes %s of %s", tellDisk(after), tellDisk(d))
	}
}

// P14.1: what may not be opened: a disk, a prefix, how many bytes of memory, what the level 1 holds.
func TestOpenRefuses(t *testing.T) {
	refuses := func(d *disk.Disk, prefix string, memory int, level int64) {
		t.Helper()
		e, no := engine.Open(d, prefix, memory, level)
		if e != nil || no != api.ErrArg {
			t.Errorf("Open(%q, %d, %d): %v, %v", prefix, memory, level, e, no)
		}
	}
	d := roomy(t)
	for _, prefix := range []string{"", "a b", " ", "\x7f", "\x00", "\u00e9", "g1.\n", "123456789", strings.Repeat("a", 24), strings.Repeat("a", 33)} {
		refuses(d, prefix, 64, 256)
	}
	for c := range 256 {
		if name := "g" + string([]byte{byte(c)}); c < 33 || c > 126 {
			refuses(d, name, 64, 256)
		} else if _, no := engine.Open(roomy(t), name, 64, 256); no != api.OK {
			t.Errorf("Open(%q): %v", name, no)
		}
	}
	for _, memory := range []int{63, 4097, 0, -1, math.MaxInt, math.MinInt} {
		refuses(d, prefix, memory, 256)
	}
	for _, level := range []int64{255, 65537, 0, -1, math.MaxInt64, math.MinInt64} {
		refuses(d, prefix, 64, level)
	}
	refuses(nil, prefix, 64, 256)
	refuses(&disk.Disk{}, prefix, 64, 256)
	if len(d.Names()) > 0 {
		t.Errorf("a refused opening leaves %q", d.Names())
	}
}

// P14.1: what just may be opened.
func TestOpenAtEdges(t *testing.T) {
	for _, prefix := range []string{"a", "~", "!", "12345678", "cur", "t.1"} {
		for _, memory := range []int{64, 4096} {
			for _, level := range []int64{256, 65536} {
				d := roomy(t)
				e, no := engine.Open(d, prefix, memory, level)
				if no != api.OK || e.Do(batch(1, "a=1")) != api.OK || e.Sync() != api.OK {
					t.Fatalf("Open(%q, %d, %d): %v", prefix, memory, level, no)
				}
				e, no = engine.Open(d, prefix, memory, level)
				if no != api.OK {
					t.Fatalf("Open(%q, %d, %d) again: %v", prefix, memory, level, no)
				}
				has(t, e, "a=1")
			}
		}
	}
}

// P14.1: a disk without room: ErrFull, and nothing is left there; whichever write is the first that has no room.
func TestOpenFull(t *testing.T) {
	count := map[api.Errno]int{}
	for left := range 60 {
		d := newDisk(t, api.MinDisk)
		write(t, d, "other", make([]byte, api.MinDisk-left))
		was := d.Copy()
		e, no := engine.Open(d, prefix, 64, 256)
		count[no]++
		if no == api.OK {
			whole(t, e, d)
		} else if no != api.ErrFull || e != nil || !disk.Same(d, was) {
			t.Fatalf("%d bytes left: %v, %v; %s", left, e, no, tellDisk(d))
		}
	}
	if count[api.ErrFull] != 24 { // 14 bytes of the manifest, 10 of cur.new
		t.Errorf("%v", count)
	}
	for files := range api.MaxFiles + 1 {
		d := roomy(t)
		for i := range files {
			write(t, d, number("other", int64(i)), nil)
		}
		was := d.Copy()
		_, no := engine.Open(d, prefix, 64, 256)
		if full := files > api.MaxFiles-3; full && (no != api.ErrFull || !disk.Same(d, was)) || !full && no != api.OK {
			t.Fatalf("%d files: %v", files, no)
		}
	}
}

// P14.1: an opening that must flush is refused where there is no room for it, and leaves the disk as it was.
func TestOpenFlushFull(t *testing.T) {
	d := newDisk(t, 2000)
	e := opened(t, d)
	do(t, e, 1, "a=1 b=2")
	write(t, d, "g1.t.9", []byte("nobody names it"))
	write(t, d, "g1.log.9", logOf(t, at(3, batch(2, "a=3"))))
	count := map[api.Errno]int{}
	for left := range 200 {
		d := d.Copy()
		write(t, d, "other", make([]byte, 2000-d.Used()-left))
		was := d.Copy()
		e, no := engine.Open(d, prefix, 64, 256)
		count[no]++
		if no == api.OK {
			has(t, e, "a=3 b=2")
			stands(t, e, 2, 2, 3, 0, 1)
			whole(t, e, d)
			continue
		}
		if no != api.ErrFull || e != nil || !disk.Same(d, was) {
			t.Fatalf("%d bytes left: %v, %v; %s", left, e, no, tellDisk(d))
		}
		d.Remove("other")
		has(t, opened(t, d), "a=3 b=2")
	}
	if count[api.OK] < 50 || count[api.ErrFull] < 50 {
		t.Errorf("%v", count)
	}
}

// P14.1: it opens what was there: the tables, and what the log has behind them; that is flushed.
func TestOpenAgain(t *testing.T) {
	e, d := made(t)
	do(t, e, 1, "a=1 b=2")
	want(t, "Flush", e.Flush(), api.OK)
	do(t, e, 5, "a=3 c=4")
	do(t, e, 7, "b")
	do(t, e, 9, "")
	e = opened(t, d)
	has(t, e, "a=3 c=4")
	stands(t, e, 9, 9, 5, 0, 2)
	whole(t, e, d)
	was := d.Copy()
	e = opened(t, d)
	stands(t, e, 9, 9, 5, 0, 2)
	if !disk.Same(d, was) {
		t.Errorf("nothing is to flush, and %s becomes %s", tellDisk(was), tellDisk(d))
	}
}

// P14.1: batches without entries are flushed, too, by an edit without a table; and a log that has torn bytes alone.
func TestOpenFlushesWhatHasNoEntries(t *testing.T) {
	e, d := made(t)
	do(t, e, 4, "")
	e = opened(t, d)
	stands(t, e, 4, 4, 0, 0, 0)
	whole(t, e, d)
	for _, torn := range []string{"t", "torn"} {
		log := e.Version().Log
		want(t, "Append", d.Append(number("log.", log), []byte(torn)), api.OK)
		e = opened(t, d)
		stands(t, e, 4, 4, 0, 0, 0)
		whole(t, e, d)
		if v := e.Version(); v.Log == log || len(read(t, d, number("log.", v.Log))) != 0 {
			t.Errorf("the log has torn bytes yet: %+v", v)
		}
	}
}

// P14.1: batches at the version's Index, or below, are in tables already.
func TestOpenPassesWhatIsFlushed(t *testing.T) {
	e, d := made(t)
	do(t, e, 1, "a=1 b=1")
	do(t, e, 2, "a=2")
	log := read(t, d, "g1.log.2")
	want(t, "Flush", e.Flush(), api.OK)
	do(t, e, 3, "b=3")
	name := number("log.", e.Version().Log)
	write(t, d, name, append(log, read(t, d, name)...))
	e = opened(t, d)
	has(t, e, "a=2 b=3")
	stands(t, e, 3, 3, 4, 0, 2)
	whole(t, e, d)
	name = number("log.", e.Version().Log)
	write(t, d, name, log)
	e = opened(t, d)
	has(t, e, "a=2 b=3")
	stands(t, e, 3, 3, 4, 0, 2)
	whole(t, e, d)
	if name == number("log.", e.Version().Log) {
		t.Error("the log's file had bytes, and there is no new log")
	}
}

// logOf is a log's bytes.
func logOf(t *testing.T, l ...api.Batch) []byte {
	t.Helper()
	var all []byte
	for _, b := range l {
		form, no := wal.Put(b)
		want(t, "wal.Put", no, api.OK)
		all = append(all, form...)
	}
	return all
}

// at gives a batch's entries numbers from seq on.
func at(seq int64, b api.Batch) api.Batch {
	for i := range b.Entries {
		b.Entries[i].Seq = seq + int64(i)
	}
	return b
}

// P14.1: the logs from Log on are read, by rising numbers, not by their names' bytes; those below are not, nor those with a number that no version names.
func TestOpenReadsAllLogs(t *testing.T) {
	e, d := made(t)
	do(t, e, 1, "a=1 b=1")
	want(t, "Flush", e.Flush(), api.OK) // the table 3, the log 4
	do(t, e, 2, "a=2")
	write(t, d, "g1.log.3", logOf(t, at(4, batch(9, "below=1"))))
	write(t, d, "g1.log.9", logOf(t, at(3, batch(2, "passed=1")), at(4, batch(3, "c=3 d=3"))))
	write(t, d, "g1.log.10", logOf(t, at(6, batch(4, "c=4 a"))))
	write(t, d, "g1.log.11", nil)
	write(t, d, "g1.log.12", []byte("torn"))
	write(t, d, "g1.log.2147483647", logOf(t, at(8, batch(5, "c=5"))))
	e = opened(t, d)
	has(t, e, "b=1 c=4 d=3")
	stands(t, e, 4, 4, 7, 0, 2)
	whole(t, e, d)
	e = opened(t, d)
	has(t, e, "b=1 c=4 d=3")
	stands(t, e, 4, 4, 7, 0, 2)
}

// P14.1: a log that is read may have any number, also that of a new log to come: no batch is lost behind its rest.
func TestOpenTakesNewNumbers(t *testing.T) {
	for n := int64(3); n < 9; n++ {
		for _, keys := range [][]string{{"a=1", "b=1", "a=1 b=1 c=1"}, {"", "", "c=1"}} {
			e, d := made(t)
			do(t, e, 1, keys[0])
			write(t, d, number("log.", n), append(logOf(t, at(2, batch(2, keys[1]))), 0, 0))
			e = opened(t, d)
			stands(t, e, 2, 2, e.At().Seq, 0, len(keys[0])/3)
			whole(t, e, d)
			do(t, e, 3, "c=1")
			want(t, "Sync", e.Sync(), api.OK)
			has(t, opened(t, crash(t, d, nothing)), keys[2])
		}
	}
}

// P14.1: what another log has is flushed, also where the version's own has nothing.
func TestOpenFlushesAnotherLog(t *testing.T) {
	e, d := made(t)
	do(t, e, 1, "a=1")
	want(t, "Flush", e.Flush(), api.OK)
	write(t, d, "g1.log.7", logOf(t, at(2, batch(2, "b=1")), batch(3, "")))
	e = opened(t, d)
	has(t, e, "a=1 b=1")
	stands(t, e, 3, 3, 2, 0, 2)
	whole(t, e, d)
	write(t, d, "g1.log.17", logOf(t, batch(4, "")))
	e = opened(t, d)
	stands(t, e, 4, 4, 2, 0, 2)
	whole(t, e, d)
}

// P14.1, P0.5: where nothing is to flush, a log that nobody names goes all the same.
func TestOpenRemovesElderLogs(t *testing.T) {
	e, d := made(t)
	do(t, e, 5, "a=1")
	want(t, "Flush", e.Flush(), api.OK)
	v := e.Version()
	write(t, d, "g1.log.9", logOf(t, at(1, batch(4, "b=1"))))
	e = opened(t, d)
	whole(t, e, d)
	has(t, e, "a=1")
	if w := e.Version(); w.Log != v.Log || w.Index != 5 {
		t.Errorf("%+v", w)
	}
	whole(t, opened(t, d), d)
}

// P14.1, P0.5: files of these kinds with its prefix that nobody names go; others stay.
func TestOpenRemovesWhatNobodyNames(t *testing.T) {
	mine := []string{"cur.new", "t.1", "t.0", "t.99", "t.5", "t.6", "t.7", "edits.9", "edits.0", "edits.5", "edits.6", "edits.7", "log.1", "log.0", "log.2147483647", "log.9999999999999999999", "t.2147483648", "t.9999999999999999999", "edits.9223372036854775808"}
	others := []string{"g1.raft", "g1.raft.new", "g2.t.1", "g1.t.", "g1.t.01", "g1.t.1x", "g1.t.-1", "g1.t.+1", "g1.t.10000000000000000000", "g1.edits.", "g1.edits.00", "g1.cur.", "g1.cur.new.", "g1.cure", "g1.log", "g1.log.1.", "g1", "t.1", "cur", "xg1.t.1", "g1.T.1", "g1..t.1", "g1.t.1~"}
	for _, torn := range []bool{false, true} {
		for _, more := range []bool{false, true} {
			e, d := made(t)
			do(t, e, 1, "a=1 b=1")
			want(t, "Flush", e.Flush(), api.OK)
			if more { // to be flushed, where files with the next numbers lie about
				do(t, e, 2, "a=2")
			}
			for _, name := range mine {
				write(t, d, prefix+name, []byte("left"))
			}
			for _, name := range others {
				write(t, d, name, []byte(name))
			}
			if torn {
				want(t, "Append", d.Append(manifestOf(t, d), []byte("torn")), api.OK)
			}
			e = opened(t, d)
			for _, name := range others {
				if got := read(t, d, name); string(got) != name {
					t.Errorf("%s: %q", name, got)
				}
				d.Remove(name)
			}
			whole(t, e, d)
			if more {
				has(t, e, "a=2 b=1")
			} else {
				has(t, e, "a=1 b=1")
			}
		}
	}
}

// P14.1: a beginning that a crash left undone is begun anew, whatever is left of it.
func TestOpenBeginsAnew(t *testing.T) {
	_, new := made(t)
	for n := range 15 {
		for m := range 11 {
			d := roomy(t)
			write(t, d, "g1.log.2", nil)
			write(t, d, "g1.edits.1", read(t, new, "g1.edits.1")[:n])
			write(t, d, "g1.cur.new", []byte("g1.edits.1")[:m])
			e := opened(t, d)
			stands(t, e, 0, 0, 0, 0, 0)
			if !disk.Same(d, new) {
				t.Fatalf("%d, %d: %s", n, m, tellDisk(d))
			}
		}
	}
}

// P14.1: engines with other prefixes share a disk.
func TestOpenSharesADisk(t *testing.T) {
	d := roomy(t)
	var l []*engine.Engine
	prefixes := []string{"g1.", "g2.", "g", "g1", "g1.t.", "t."}
	for _, prefix := range prefixes {
		e, no := engine.Open(d, prefix, 64, 256)
		want(t, "Open "+prefix, no, api.OK)
		l = append(l, e)
	}
	for round := range int64(20) {
		for i, e := range l {
			do(t, e, round+1, "a="+prefixes[i]+" b="+strings.Repeat("x", int(round)))
		}
		for _, e := range l {
			for is := true; is; {
				is, _ = e.Compact()
			}
		}
		for i, prefix := range prefixes {
			has(t, l[i], "a="+prefix+" b="+strings.Repeat("x", int(round)))
			if (int(round)+i)%3 == 0 {
				e, no := engine.Open(d, prefix, 64, 256)
				want(t, "Open "+prefix, no, api.OK)
				l[i] = e
			}
		}
	}
}
