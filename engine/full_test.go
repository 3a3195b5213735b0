package engine_test

import (
	"strconv"
	"strings"
	"testing"

	"hectare/api"
	"hectare/disk"
	"hectare/edit"
	"hectare/engine"
)

// call is what is asked of an engine, what it comes to, and whether a refused one may have been done, as an opening sees it.
type call struct {
	name  string
	do    func(*engine.Engine) api.Errno
	after func(moment) moment
	maybe bool
}

func calls() []call {
	stays := func(m moment) moment { return m }
	big := batch(900, "k1=1 new=2 k3 k5="+strings.Repeat("y", 50))
	small := batch(900, "k1=1 k3")
	table := pairs("k2=taken k4=taken zzz=" + strings.Repeat("z", 70))
	return []call{
		{"Do", func(e *engine.Engine) api.Errno { return e.Do(small) }, func(m moment) moment { return m.behind(small) }, true},
		{"Do and flush", func(e *engine.Engine) api.Errno { return e.Do(big) }, func(m moment) moment { return m.behind(big) }, true},
		{"Flush", (*engine.Engine).Flush, stays, false},
		{"Take", func(e *engine.Engine) api.Errno { return e.Take(small, table) }, func(m moment) moment { return m.behind(small, table...) }, false},
		{"Replace", func(e *engine.Engine) api.Errno { return e.Replace(900, table) }, func(m moment) moment {
			return moment{seq: m.seq}.emptied().behind(api.Batch{Index: 900}, table...)
		}, false},
		{"Compact", func(e *engine.Engine) api.Errno { _, no := e.Compact(); return no }, stays, false},
	}
}

func (m moment) emptied() moment {
	m.pairs = map[string]string{}
	return m
}

// busy is the disk of an engine with tables at several levels, more than the level 0 holds; if long, with a manifest that comes to more than 4096 bytes by the next edit.
func busy(t *testing.T, long bool) (*disk.Disk, moment) {
	t.Helper()
	d := newDisk(t, 40000)
	e := opened(t, d)
	m := moment{pairs: map[string]string{}}
	put := func(text string) {
		t.Helper()
		b := batch(m.index+1, text)
		want(t, "Do", e.Do(b), api.OK)
		m = m.behind(b)
	}
	for i := range 33 {
		put("k" + strconv.Itoa(i%9) + "=" + strings.Repeat(strconv.Itoa(i%10), 30) + " k" + strconv.Itoa(10+i) + "=1")
		for is := true; is && i < 25; {
			is, _ = e.Compact()
		}
	}
	put("k1=last k40=")
	want(t, "Flush", e.Flush(), api.OK)
	for long && len(read(t, d, manifestOf(t, d))) < 4096-12 { // the shortest edit's frame has 14 bytes, and more
		put("")
		want(t, "Flush", e.Flush(), api.OK)
	}
	if v := e.Version(); len(edit.Of(v, 0)) < 4 || len(edit.Of(v, 1)) == 0 || len(edit.Of(v, 2)) == 0 {
		t.Fatalf("%+v", v)
	}
	return d, m
}

// unflushed is the engine on a disk of which all is flushed, with a batch more, in memory.
func unflushed(t *testing.T, d *disk.Disk, m moment) (*engine.Engine, moment) {
	t.Helper()
	e := opened(t, d)
	b := batch(m.index+1, "k2=memory k0")
	want(t, "Do", e.Do(b), api.OK)
	m = m.behind(b)
	is(t, e, m)
	if e.At().Memory == 0 {
		t.Fatal("nothing is in memory")
	}
	return e, m
}

// fill leaves so many bytes, and files, on a disk.
func fill(t *testing.T, d *disk.Disk, left, files int) {
	t.Helper()
	for i := len(d.Names()); i < api.MaxFiles-files-1; i++ {
		write(t, d, "other"+strconv.Itoa(i), nil)
	}
	write(t, d, "other", make([]byte, d.Room()-d.Used()-left))
}

// rooms are how many bytes, and how many files, are left.
func rooms() [][2]int {
	var l [][2]int
	for left := range 3000 {
		if left < 30 || left < 700 && left%19 == 0 || left%150 == 0 {
			l = append(l, [2]int{left, 20})
		}
	}
	for files := range 15 {
		l = append(l, [2]int{5000, files})
	}
	return l
}

// P14.1, P14.3, P14.4, P14.5: whichever write is refused, nothing was done, and the engine must be opened anew; what is there then is what was, or, of a batch, all of it, too.
func TestFull(t *testing.T) {
	for _, long := range []bool{false, true} {
		made, was := busy(t, long)
		for _, c := range calls() {
			t.Run(c.name, func(t *testing.T) {
				t.Parallel()
				counts := map[api.Errno]int{}
				for _, room := range rooms() {
					counts[full(t, made.Copy(), was, c, room)]++
				}
				if counts[api.OK] < 5 || counts[api.ErrFull] < 5 {
					t.Errorf("%v", counts)
				}
			})
		}
	}
}

// full says what a call comes to that has that room.
func full(t *testing.T, d *disk.Disk, was moment, c call, room [2]int) api.Errno {
	t.Helper()
	e, m := unflushed(t, d, was)
	fill(t, d, room[0], room[1])
	before, at, v := d.Copy(), e.At(), e.Version()
	no := c.do(e)
	if no == api.OK {
		is(t, e, c.after(m))
		whole(t, e, d)
		return no
	}
	want(t, c.name, no, api.ErrFull)
	if e.At() != at || !edit.Same(e.Version(), v) {
		t.Fatalf("room %v: %+v, was %+v", room, e.At(), at)
	}
	whole(t, e, d)
	if !c.maybe && !disk.Same(d, before) {
		t.Fatalf("room %v: %s becomes %s", room, tellDisk(before), tellDisk(d))
	}
	refusedAll(t, e)
	again(t, d, was, m, c)
	return no
}

// refusedAll says that a refused engine refuses all.
func refusedAll(t *testing.T, e *engine.Engine) {
	t.Helper()
	index := e.At().Index + 1
	want(t, "Do", e.Do(batch(index, "a=1")), api.ErrState)
	want(t, "Sync", e.Sync(), api.ErrState)
	want(t, "Flush", e.Flush(), api.ErrState)
	want(t, "Take", e.Take(batch(index, "a=1"), nil), api.ErrState)
	want(t, "Replace", e.Replace(index, nil), api.ErrState)
	done, no := e.Compact()
	want(t, "Compact", no, api.ErrState)
	value, there, no := e.Get([]byte("k1"))
	want(t, "Get", no, api.ErrState)
	isZero(t, done, value, there)
	if tell(e) != "" {
		t.Fatalf("Scan: %s", tell(e))
	}
}

// again says what is there when a refused engine is opened anew, with room; also behind a crash, which may leave less of what was not synced.
func again(t *testing.T, d *disk.Disk, was, m moment, c call) {
	t.Helper()
	for _, name := range d.Names() {
		if strings.HasPrefix(name, "other") {
			d.Remove(name)
		}
	}
	for i, d := range []*disk.Disk{d, crash(t, d, everything), crash(t, d, func(_ string, most int) int { return most / 2 }), crash(t, d, nothing)} {
		e := opened(t, d)
		got := momentOf(e).text()
		switch {
		case got == m.text() && i < 3, got == was.text() && i > 1, got == c.after(m).text() && c.maybe && i < 2:
		default:
			t.Fatalf("behind a refused %s, opened as %d: %s", c.name, i, got)
		}
		whole(t, e, d)
	}
}
