package engine_test

import (
	"slices"
	"strconv"
	"strings"
	"testing"

	"hectare/api"
	"hectare/disk"
	"hectare/engine"
)

// life is an engine, and all that it was since the last time that something lasted: the last of these is what it is.
type life struct {
	e    *engine.Engine
	d    *disk.Disk
	was  []moment
	keys int
	next func(int) int
	open func(t *testing.T, d *disk.Disk) *engine.Engine
}

func (l *life) now() moment {
	return l.was[len(l.was)-1]
}

// lasts says that the engine, as it is, has come to last.
func (l *life) lasts() {
	l.was = l.was[len(l.was)-1:]
}

// index is a place above the engine's.
func (l *life) index() int64 {
	return l.now().index + 1 + int64(l.next(3))
}

// somePairs are any, rising, of keys that a batch has not.
func (l *life) somePairs(b api.Batch) []api.Pair {
	at := map[string]int{}
	for _, one := range b.Entries {
		at[string(one.Key)] = 1
	}
	var keys []string
	for range l.next(12) {
		key := "k" + strconv.Itoa(l.next(l.keys))
		if at[key] == 0 {
			at[key] = 1
			keys = append(keys, key)
		}
	}
	slices.Sort(keys)
	var all []api.Pair
	for _, key := range keys {
		all = append(all, api.Pair{Key: []byte(key), Value: []byte(strings.Repeat(strconv.Itoa(l.next(10)), l.next(12)))})
	}
	return all
}

// step does something, any of what may be done.
func (l *life) step(t *testing.T) string {
	t.Helper()
	switch n := l.next(40); {
	case n < 22:
		b := someBatch(l.next, l.index(), l.keys)
		want(t, "Do", l.e.Do(b), api.OK)
		l.was = append(l.was, l.now().behind(b))
		if l.e.At().Flushed == b.Index {
			l.lasts()
		}
		return "Do"
	case n < 26:
		want(t, "Sync", l.e.Sync(), api.OK)
		l.lasts()
		return "Sync"
	case n < 28:
		want(t, "Flush", l.e.Flush(), api.OK)
		l.lasts()
		return "Flush"
	case n < 33:
		_, no := l.e.Compact()
		want(t, "Compact", no, api.OK)
		return "Compact"
	case n < 36:
		b := someBatch(l.next, l.index(), l.keys)
		table := l.somePairs(b)
		want(t, "Take", l.e.Take(b, table), api.OK)
		l.was = []moment{l.now().behind(b, table...)}
		return "Take"
	case n < 37:
		index, all := l.now().index+int64(l.next(3)), l.somePairs(api.Batch{})
		want(t, "Replace", l.e.Replace(index, all), api.OK)
		l.was = []moment{moment{seq: l.now().seq}.emptied().behind(api.Batch{Index: index}, all...)}
		return "Replace"
	}
	return l.crash(t)
}

// crash crashes, keeps any of what is loose, and opens: the engine is what it was, none elder than what lasts.
func (l *life) crash(t *testing.T) string {
	t.Helper()
	kind := l.next(4)
	l.d = crash(t, l.d, func(_ string, most int) int {
		return []int{0, most, l.next(most + 1), l.next(most + 1)}[kind]
	})
	l.e = l.open(t, l.d)
	got := momentOf(l.e)
	at := slices.IndexFunc(l.was, func(m moment) bool { return m.text() == got.text() })
	if at < 0 {
		t.Fatalf("behind a crash: %s\nwas: %s", got.text(), l.now().text())
	}
	back := "crash"
	if at < len(l.was)-1 {
		back = "crash back"
	}
	l.was = []moment{got}
	return back
}

// P14.5, P0.2, P0.5: behind any crash, between any calls, the engine is what it was behind some batch, none elder than the last one that lasts; its files are there, and no others.
func TestCrashes(t *testing.T) {
	t.Parallel()
	counts := map[string]int{}
	for seed := range uint32(24) {
		next := chance(seed)
		memory, level := 64+next(300), int64(256+next(700))
		l := &life{d: newDisk(t, 100000), keys: 5 + next(60), next: next, was: []moment{moment{}.emptied()}}
		l.open = func(t *testing.T, d *disk.Disk) *engine.Engine {
			t.Helper()
			return openedAs(t, d, memory, level)
		}
		l.e = l.open(t, l.d)
		for range 250 {
			counts[l.step(t)]++
			is(t, l.e, l.now())
			whole(t, l.e, l.d)
			if len(l.d.Names()) > 60 {
				for more := true; more; {
					more, _ = l.e.Compact()
				}
				counts["many files"]++
			}
		}
	}
	for _, kind := range []string{"Do", "Sync", "Flush", "Compact", "Take", "Replace", "crash", "crash back"} {
		if counts[kind] < 60 {
			t.Errorf("%s: %v", kind, counts)
		}
	}
}

// between are the disks that a crash may leave in the midst of a call that made after of before: files are written one behind the other, each synced ahead of the next one, the manifest or cur last; elder ones go then.
func between(t *testing.T, before, after *disk.Disk) []*disk.Disk {
	t.Helper()
	d := before.Copy()
	l := []*disk.Disk{d.Copy()}
	grow := func(name string, b []byte) {
		t.Helper()
		base := read0(d, name)
		for n := range len(b) + 1 {
			part := d.Copy()
			write(t, part, name, append(slices.Clone(base), b[:n]...))
			l = append(l, part)
		}
		write(t, d, name, append(base, b...))
	}
	var tables, others []string
	for _, name := range after.Names() {
		switch {
		case strings.HasPrefix(name, prefix+"t.") && !slices.Contains(before.Names(), name):
			tables = append(tables, name)
		case strings.HasPrefix(name, prefix+"log.") && !slices.Contains(before.Names(), name):
			others = append(others, name)
		}
	}
	for _, name := range append(tables, others...) {
		grow(name, read(t, after, name))
	}
	old, new := manifestOf(t, before), manifestOf(t, after)
	if old == new {
		grow(new, read(t, after, new)[len(read(t, before, new)):])
	} else {
		grow(new, read(t, after, new))
		grow(prefix+"cur.new", []byte(new))
		want(t, "Rename", d.Rename(prefix+"cur.new", prefix+"cur"), api.OK)
		l = append(l, d.Copy())
	}
	for _, name := range before.Names() {
		if !slices.Contains(after.Names(), name) {
			d.Remove(name)
			l = append(l, d.Copy())
		}
	}
	if !slices.Equal(d.Names(), after.Names()) {
		t.Fatalf("%q, want %q", d.Names(), after.Names())
	}
	return l
}

// read0 is a file's bytes; none, if it is not there.
func read0(d *disk.Disk, name string) []byte {
	b, _ := d.Read(name)
	return b
}

// P14.5, P0.2: behind a crash in the midst of a flush, a compaction, a Take, a Replace the engine is what it was, or all was done: from one write on.
func TestCrashBetweenWrites(t *testing.T) {
	for _, long := range []bool{false, true} {
		made, was := busy(t, long)
		for _, c := range calls() {
			if c.name == "Do" {
				continue // one write
			}
			t.Run(c.name, func(t *testing.T) {
				t.Parallel()
				d := made.Copy()
				e, m := unflushed(t, d, was)
				want(t, "Sync", e.Sync(), api.OK)
				before := d.Copy()
				want(t, c.name, c.do(e), api.OK)
				turned, after := 0, c.after(m)
				for i, d := range between(t, before, d) {
					e := opened(t, d)
					switch got := momentOf(e).text(); {
					case got == after.text():
						turned++
					case got != m.text() || turned > 0:
						t.Fatalf("%d: %s", i, got)
					}
					whole(t, e, d)
				}
				if turned == 0 {
					t.Error("nothing was done")
				}
			})
		}
	}
}

// P14.5, P0.4: Compact and Flush change nothing of what is read, also far down; at last no more is next.
func TestCompactChangesNothing(t *testing.T) {
	t.Parallel()
	e, d := made(t)
	m := moment{}.emptied()
	next := chance(7)
	for i := range int64(600) {
		b := someBatch(next, i+1, 300)
		want(t, "Do", e.Do(b), api.OK)
		m = m.behind(b)
		if i%9 == 0 {
			for more := true; more; {
				var no api.Errno
				more, no = e.Compact()
				want(t, "Compact", no, api.OK)
				is(t, e, m)
			}
		}
		if i%50 == 0 {
			want(t, "Flush", e.Flush(), api.OK)
			is(t, e, m)
			whole(t, e, d)
		}
	}
	deep := 0
	for _, at := range e.Version().Tables {
		deep = max(deep, at.Level)
	}
	if deep < 3 {
		t.Errorf("no deeper than %d: %+v", deep, e.Version())
	}
	is(t, opened(t, crash(t, d, everything)), m)
}

// P14.5: the answers hang on nothing but the calls: two engines to which the same is done are the same, and their disks.
func TestSameAgain(t *testing.T) {
	var disks []*disk.Disk
	for range 3 {
		l := &life{d: newDisk(t, 100000), keys: 20, next: chance(11), was: []moment{moment{}.emptied()}, open: opened}
		l.e = opened(t, l.d)
		for range 200 {
			l.step(t)
		}
		disks = append(disks, l.d)
	}
	if !disk.Same(disks[0], disks[1]) || !disk.Same(disks[0], disks[2]) {
		t.Errorf("%s\n%s\n%s", tellDisk(disks[0]), tellDisk(disks[1]), tellDisk(disks[2]))
	}
}
