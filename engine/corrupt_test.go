package engine_test

import (
	"slices"
	"strings"
	"testing"

	"hectare/api"
	"hectare/disk"
	"hectare/edit"
	"hectare/engine"
	"hectare/frame"
	"hectare/table"
)

// corrupt says that an opening of that disk is refused as corrupt, and leaves it as it is.
func corrupt(t *testing.T, d *disk.Disk, what string) {
	t.Helper()
	was := d.Copy()
	e, no := engine.Open(d, prefix, 64, 256)
	if e != nil || no != api.ErrCorrupt {
		t.Fatalf("%s: %v, %v", what, e, no)
	}
	if !disk.Same(was, d) {
		t.Fatalf("%s: an opening that is refused makes %s of %s", what, tellDisk(d), tellDisk(was))
	}
}

// grown is the disk of an engine with tables at two levels, a manifest of many frames, and batches in the log.
func grown(t *testing.T) *disk.Disk {
	t.Helper()
	d := newDisk(t, 20000)
	e := opened(t, d)
	for i := range int64(6) {
		do(t, e, i+1, "a"+strings.Repeat("x", int(i))+"=1 b"+strings.Repeat("x", 40)[:i]+"=2 c")
		want(t, "Flush", e.Flush(), api.OK)
		if i == 3 {
			e.Compact()
		}
	}
	do(t, e, 7, "q=1 r=2")
	do(t, e, 8, "s=3 q")
	want(t, "Sync", e.Sync(), api.OK)
	if v := e.Version(); len(edit.Of(v, 0)) < 2 || len(edit.Of(v, 1)) < 1 {
		t.Fatalf("%+v", v)
	}
	return d
}

// P14.5, P0.6: a byte that is changed in a table is told, whichever; so is one less, one more, none.
func TestChangedTables(t *testing.T) {
	t.Parallel()
	d := grown(t)
	for _, name := range d.Names() {
		if !strings.HasPrefix(name, prefix+"t.") {
			continue
		}
		b := read(t, d, name)
		for i := range b {
			for _, change := range []byte{1, 0x80, 0xff} {
				other := slices.Clone(b)
				other[i] ^= change
				d := d.Copy()
				write(t, d, name, other)
				corrupt(t, d, name)
			}
		}
		for n := range b {
			d := d.Copy()
			write(t, d, name, b[:n])
			corrupt(t, d, name)
		}
		for _, b := range [][]byte{append(slices.Clone(b), 0), append([]byte{0}, b...), append(slices.Clone(b), b...), nil} {
			d := d.Copy()
			write(t, d, name, b)
			corrupt(t, d, name)
		}
	}
}

// P14.5, P0.6: a byte that is changed in the manifest's whole frames is told, whichever, and whatever it becomes: also one of a frame's length, which may make it look torn.
func TestChangedManifest(t *testing.T) {
	t.Parallel()
	d := grown(t)
	name := manifestOf(t, d)
	b := read(t, d, name)
	frames, size := frame.Whole(b)
	if frames < 5 || size != len(b) {
		t.Fatal(frames, size)
	}
	head := map[int]int{}
	for at := range frame.All(b) {
		for i := range 4 {
			head[at+i] = 1
		}
	}
	for i := range b {
		for c := range 256 {
			if byte(c) == b[i] || head[i] == 0 && c%51 > 0 {
				continue
			}
			other := slices.Clone(b)
			other[i] = byte(c)
			d := d.Copy()
			write(t, d, name, other)
			corrupt(t, d, name)
			if c%51 == 0 { // with a torn rest behind it
				write(t, d, name, append(other, b[:6]...))
				corrupt(t, d, name)
			}
		}
	}
}

// P14.5, P0.6: a table that was taken in stands in the last frame alone: without it all the rest is well, but it is told.
func TestChangedLengths(t *testing.T) {
	e, d := made(t)
	do(t, e, 1, "a=1")
	want(t, "Flush", e.Flush(), api.OK)
	for i := range int64(3) {
		want(t, "Take", e.Take(batch(i+2, ""), pairs("b"+strings.Repeat("x", int(i))+"=1")), api.OK)
	}
	b := read(t, d, "g1.edits.1")
	for at := range frame.All(b) {
		for i := range 4 {
			for c := range 256 {
				other := slices.Clone(b)
				if other[at+i] = byte(c); byte(c) != b[at+i] {
					d := d.Copy()
					write(t, d, "g1.edits.1", other)
					corrupt(t, d, "manifest")
				}
			}
		}
	}
	for _, n := range []int{1, 2, 9, 100, 199, 200, 230, 254, 255, 256, 257, 300, 511, 520} { // of any length
		frame, _ := frame.Put(make([]byte, n))
		for i := range 4 {
			for _, more := range []byte{1, 2, 15} {
				other := slices.Clone(frame)
				if other[i] += more; other[i] < more {
					continue
				}
				for _, rest := range [][]byte{nil, {0}, frame} {
					d := d.Copy()
					write(t, d, "g1.edits.1", slices.Concat(b, other, rest))
					corrupt(t, d, "manifest")
				}
			}
		}
	}
}

// P14.1: a torn rest of the manifest is what a crash leaves: each first part of an edit's frame, of whatever length; a new one is written.
func TestTornManifest(t *testing.T) {
	t.Parallel()
	made := grown(t)
	at, has := opened(t, made.Copy()).At(), tell(opened(t, made.Copy()))
	name := manifestOf(t, made)
	var long api.Edit
	for i := range int64(30) {
		long.Drop = append(long.Drop, i)
		long.Add = append(long.Add, api.TableAt{Number: 100 + i, First: []byte(strings.Repeat("a", 32)), Last: []byte(strings.Repeat("b", 32)), Size: 1})
	}
	for _, e := range []api.Edit{{Next: 90, Log: 80, Index: 70, Seq: 99}, long, {}} {
		b, no := edit.Put(e)
		want(t, "Put", no, api.OK)
		for n := 1; n < len(b); n++ {
			if n > 300 && n%29 > 0 {
				continue
			}
			d := made.Copy()
			write(t, d, name, append(read(t, d, name), b[:n]...))
			e := opened(t, d)
			if e.At() != at || tell(e) != has {
				t.Fatalf("%d bytes: %+v, %s", n, e.At(), tell(e))
			}
			whole(t, e, d)
			if manifestOf(t, d) == name {
				t.Fatalf("%d bytes: no new manifest", n)
			}
		}
	}
}

// P14.1: a torn rest, and nothing to flush: a new manifest all the same.
func TestTornManifestAlone(t *testing.T) {
	e, d := made(t)
	do(t, e, 1, "a=1")
	want(t, "Flush", e.Flush(), api.OK)
	v := e.Version()
	for n := 1; n < 14; n++ {
		d := d.Copy()
		want(t, "Append", d.Append("g1.edits.1", read(t, d, "g1.edits.1")[:n]), api.OK)
		e := opened(t, d)
		whole(t, e, d)
		has(t, e, "a=1")
		now := e.Version()
		if manifestOf(t, d) == "g1.edits.1" || now.Log != v.Log || now.Index != v.Index || len(now.Tables) != 1 {
			t.Fatalf("%d: %+v", n, now)
		}
		was := d.Copy()
		opened(t, d)
		if !disk.Same(was, d) {
			t.Fatalf("%d: opened again: %s", n, tellDisk(d))
		}
	}
}

// P14.1, P0.6: other manifests that no crash leaves: odd ones, edits that may not be done, frames that say no edit.
func TestOddManifest(t *testing.T) {
	d := grown(t)
	name := manifestOf(t, d)
	write(t, d, "g1.log.0", nil)
	b := read(t, d, name)
	none, _ := frame.Put([]byte{9})
	below, _ := edit.Put(api.Edit{Next: 1})
	twice, _ := edit.Put(api.Edit{Drop: []int64{999}, Next: 2000, Log: 1000, Index: 900, Seq: 900})
	for i, rest := range [][]byte{none, below, twice, append(none, 1, 2), {0, 0, 0, 0, 0, 0, 0, 0}, {0, 16, 0, 1, 0, 0, 0, 0, 0}, {0xff, 0, 0, 0, 0, 0, 0, 0}, {0, 0, 0, 1, 0, 0, 0, 0, 0}} {
		d := d.Copy()
		write(t, d, name, append(slices.Clone(b), rest...))
		corrupt(t, d, "rest "+string(rune('0'+i)))
	}
	for n := range 14 { // without its first frame a manifest says nothing
		d := d.Copy()
		write(t, d, name, b[:n])
		corrupt(t, d, "a part of the first frame")
	}
	d = roomy(t)
	opened(t, d)
	high, _ := edit.Put(api.Edit{Next: 3, Log: 2})
	for i, number := range []string{"g1.edits.3", "g1.edits.4", "g1.edits.2147483647", "g1.edits.9999999999999999999"} {
		d := d.Copy() // the manifest has a number of which one to come may be
		write(t, d, number, high)
		write(t, d, "g1.cur", []byte(number))
		corrupt(t, d, number+string(rune('0'+i)))
	}
}

// P14.1, P0.6: cur names the manifest, whole, or it is corrupt.
func TestOddCur(t *testing.T) {
	d := grown(t)
	write(t, d, "g1.edits.x", read(t, d, "g1.edits.1"))
	write(t, d, "g1.edits.01", read(t, d, "g1.edits.1"))
	write(t, d, "g1.edits.", read(t, d, "g1.edits.1"))
	write(t, d, "g2.edits.1", read(t, d, "g1.edits.1"))
	write(t, d, "edits.1", read(t, d, "g1.edits.1"))
	write(t, d, "g1.log.0", nil)
	for _, name := range []string{"", "g1.edits.", "g1.edits.x", "g1.edits.01", "g1.edits.2", "g2.edits.1", "edits.1", "1", "g1.edits.1\n", "g1.edits.1 ", "g1.edits.11", "g1.cur", "g1.log.2", "g1.t.3", "g1.edits.-1", "g1.edits.0", "\x00"} {
		d := d.Copy()
		write(t, d, "g1.cur", []byte(name))
		corrupt(t, d, "cur: "+name)
	}
	b := read(t, d, "g1.cur")
	for i := range b {
		for c := range 256 {
			other := slices.Clone(b)
			if other[i] = byte(c); byte(c) != b[i] {
				d := d.Copy()
				write(t, d, "g1.cur", other)
				corrupt(t, d, "cur: "+string(other))
			}
		}
	}
}

// P14.1, P0.6: a file that is named, and not there; but of cur: then it is a new engine.
func TestMissingFiles(t *testing.T) {
	made := grown(t)
	for _, name := range made.Names() {
		d := made.Copy()
		want(t, "Remove", d.Remove(name), api.OK)
		if name != prefix+"cur" {
			corrupt(t, d, "without "+name)
			write(t, d, "g1.log.0", nil)
			corrupt(t, d, "without "+name)
			continue
		}
		e := opened(t, d)
		stands(t, e, 0, 0, 0, 0, 0)
		whole(t, e, d)
		if got := tellDisk(d); got != "g1.cur:10 g1.edits.1:14 g1.log.2:0" {
			t.Error(got)
		}
	}
}

// P14.1, P0.6: tables that are whole, but not those that the version says: their keys, their size, a number above its greatest one.
func TestOtherTables(t *testing.T) {
	e, d := made(t)
	do(t, e, 1, "b=1 d=1")
	want(t, "Flush", e.Flush(), api.OK)
	name := number("t.", e.Version().Tables[0].Number)
	entry := func(key string, seq int64, value string) api.Entry {
		return api.Entry{Key: []byte(key), Seq: seq, Kind: api.KindPut, Value: []byte(value)}
	}
	for i, l := range [][]api.Entry{
		{entry("a", 1, "1"), entry("d", 2, "1")}, {entry("b", 1, "1"), entry("e", 2, "1")}, {entry("b", 1, "1")}, {entry("d", 2, "11")},
		{entry("b", 1, "1"), entry("d", 3, "1")}, {entry("b", 3, "1"), entry("d", 2, "1")}, {entry("b", 1, "1"), entry("d", 2, "22")}, {entry("b", 1, "1"), entry("c", 2, "1"), entry("d", 2, "1")},
	} {
		b, no := table.Write(l...)
		want(t, "Write", no, api.OK)
		d := d.Copy()
		write(t, d, name, b)
		corrupt(t, d, "table "+string(rune('0'+i)))
	}
	b, _ := table.Write(entry("b", 2, "5"), entry("d", 1, "6"))
	write(t, d, name, b)
	has(t, opened(t, d), "b=5 d=6")
}

// P14.1, P0.6: logs that no crash leaves: odd, falling places, numbers that do not rise, batches behind a torn one.
func TestOddLogs(t *testing.T) {
	e, d := made(t)
	do(t, e, 3, "a=1 b=1")
	want(t, "Flush", e.Flush(), api.OK)
	do(t, e, 4, "a=2")
	log := number("log.", e.Version().Log)
	well := read(t, d, log)
	none, _ := frame.Put([]byte{9, 9})
	for i := range well {
		b := slices.Clone(well)
		b[i] ^= 1
		if d := d.Copy(); i == 0 || i >= 4 { // the others of the length make a torn rest of it
			write(t, d, log, b)
			corrupt(t, d, "log")
		}
	}
	for i, b := range [][]byte{
		append(slices.Clone(well), 0, 0, 0, 0, 0, 0, 0, 0), append(slices.Clone(well), none...), append(slices.Clone(well), well...),
		logOf(t, at(4, batch(5, "c=1")), batch(4, "")), logOf(t, at(2, batch(4, "c=1"))), logOf(t, at(1, batch(4, "a=1"))), logOf(t, at(3, batch(4, "c=1 d=1")), at(4, batch(5, "e=1"))),
		logOf(t, at(5, batch(4, "c=1")), at(4, batch(5, "d=1"))), logOf(t, api.Batch{Index: 4, Entries: append(at(4, batch(4, "c=1")).Entries, at(3, batch(4, "d=1")).Entries...)}),
	} {
		d := d.Copy()
		write(t, d, log, b)
		corrupt(t, d, "log "+string(rune('0'+i)))
	}
	for n := range well[1:] {
		d := d.Copy()
		write(t, d, log, append(slices.Clone(well), well[:n+1]...))
		has(t, opened(t, d), "a=2 b=1")
	}
	d1 := d.Copy()
	write(t, d1, log, append(slices.Clone(well), well[:5]...))
	write(t, d1, "g1.log.90", logOf(t, at(4, batch(5, "c=1"))))
	corrupt(t, d1, "a batch in a log behind a torn one")
	write(t, d1, "g1.log.80", nil)
	corrupt(t, d1, "a batch in a log further behind a torn one")
	write(t, d1, "g1.log.90", []byte("torn"))
	has(t, opened(t, d1), "a=2 b=1")
	write(t, d, "g1.log.90", none)
	corrupt(t, d, "an odd log behind")
}

// P0.9: two tables may say another value of one key by one number: Get answers what Scan goes over.
func TestOneNumberTwice(t *testing.T) {
	for _, levels := range [][]int{{0, 0}, {0, 1}, {1, 2}, {2, 1}} {
		_, d := made(t)
		e := api.Edit{Next: 9, Log: 2, Seq: 3}
		for i, level := range levels {
			b, no := table.Write(api.Entry{Key: []byte("a"), Seq: 3, Kind: api.KindPut, Value: []byte{byte('0' + i)}})
			want(t, "Write", no, api.OK)
			write(t, d, number("t.", int64(3+i)), b)
			e.Add = append(e.Add, api.TableAt{Number: int64(3 + i), Level: level, First: []byte("a"), Last: []byte("a"), Size: int64(len(b))})
		}
		b, no := edit.Put(e)
		want(t, "Put", no, api.OK)
		want(t, "Append", d.Append("g1.edits.1", b), api.OK)
		got := opened(t, d)
		has(t, got, tell(got))
	}
}

// spoil changes something of a disk's files.
func spoil(t *testing.T, d *disk.Disk, next func(int) int) {
	t.Helper()
	names := d.Names()
	name, other := names[next(len(names))], names[next(len(names))]
	b := read(t, d, name)
	at := next(len(b) + 1)
	switch next(7) {
	case 0:
		write(t, d, name, b[:at])
	case 1:
		write(t, d, name, append(b, read(t, d, other)...))
	case 2:
		write(t, d, name, read(t, d, other))
	case 3:
		d.Rename(name, other)
	case 4:
		write(t, d, prefix+[]string{"log.", "t.", "edits."}[next(3)]+string(rune('0'+next(10))), b)
	case 5:
		write(t, d, name, append(b[:at:at], append([]byte{byte(next(256))}, b[at:]...)...))
	default:
		if at < len(b) {
			b[at] ^= byte(1 << next(8))
		}
		write(t, d, name, b)
	}
}

// P0.8, P0.9: whatever the files are, an opening is refused as corrupt, or there is an engine that goes on.
func TestAnyFiles(t *testing.T) {
	t.Parallel()
	made := grown(t)
	write(t, made, prefix+"cur.new", []byte(prefix+"edits.1"))
	counts := map[api.Errno]int{}
	for seed := range uint32(1500) {
		next := chance(seed)
		d := made.Copy()
		for range 1 + next(3) {
			spoil(t, d, next)
		}
		was := d.Copy()
		e, no := engine.Open(d, prefix, 64, 256)
		counts[no]++
		if no != api.OK {
			if e != nil || no != api.ErrCorrupt || !disk.Same(was, d) {
				t.Fatalf("seed %d: %v, %v", seed, e, no)
			}
			continue
		}
		m := momentOf(e)
		is(t, e, m)
		whole(t, e, d)
		for i := range 3 {
			b := batch(m.index+1, "a=new k"+string(rune('0'+i))+"="+strings.Repeat("x", 20)+" b")
			want(t, "Do", e.Do(b), api.OK)
			m = m.behind(b)
			want(t, "Flush", e.Flush(), api.OK)
			_, no := e.Compact()
			want(t, "Compact", no, api.OK)
		}
		is(t, e, m)
		e = opened(t, crash(t, d, nothing))
		is(t, e, m)
	}
	if counts[api.OK] < 200 || counts[api.ErrCorrupt] < 200 {
		t.Errorf("%v", counts)
	}
}
