package engine_test

import (
	"bytes"
	"fmt"
	"maps"
	"reflect"
	"slices"
	"sort"
	"strconv"
	"strings"
	"testing"

	"hectare/api"
	"hectare/disk"
	"hectare/edit"
	"hectare/engine"
	"hectare/table"
)

// prefix is that of the engines of these tests.
const prefix = "g1."

// newDisk is an empty one.
func newDisk(t *testing.T, room int) *disk.Disk {
	t.Helper()
	d, no := disk.New(room)
	if no != api.OK {
		t.Fatal(no)
	}
	return d
}

// roomy is an empty disk, with the greatest room.
func roomy(t *testing.T) *disk.Disk {
	t.Helper()
	return newDisk(t, api.MaxDisk)
}

// opened is the engine on that disk, of 64 bytes of memory, and 256 of the level 1.
func opened(t *testing.T, d *disk.Disk) *engine.Engine {
	t.Helper()
	return openedAs(t, d, 64, 256)
}

func openedAs(t *testing.T, d *disk.Disk, memory int, level int64) *engine.Engine {
	t.Helper()
	e, no := engine.Open(d, prefix, memory, level)
	if no != api.OK || e == nil {
		t.Fatalf("Open: %v, %v; %s", e, no, tellDisk(d))
	}
	return e
}

// made is a new engine, and its disk.
func made(t *testing.T) (*engine.Engine, *disk.Disk) {
	t.Helper()
	d := roomy(t)
	return opened(t, d), d
}

// nils are a nil engine, and a zero one.
func nils() []*engine.Engine {
	return []*engine.Engine{nil, {}}
}

// want says which error there is.
func want(t *testing.T, what string, got, want api.Errno) {
	t.Helper()
	if got != want {
		t.Fatalf("%s: %v, want %v", what, got, want)
	}
}

// batch is that of a text: a=1 puts, b deletes.
func batch(index int64, text string) api.Batch {
	b := api.Batch{Index: index}
	for _, word := range strings.Fields(text) {
		key, value, put := strings.Cut(word, "=")
		if put {
			b.Entries = append(b.Entries, api.Entry{Key: []byte(key), Kind: api.KindPut, Value: []byte(value)})
		} else {
			b.Entries = append(b.Entries, api.Entry{Key: []byte(key), Kind: api.KindDelete})
		}
	}
	return b
}

// pairs are those of a text, in its order.
func pairs(text string) []api.Pair {
	var l []api.Pair
	for _, word := range strings.Fields(text) {
		key, value, _ := strings.Cut(word, "=")
		l = append(l, api.Pair{Key: []byte(key), Value: []byte(value)})
	}
	return l
}

// do does a batch, which may be done.
func do(t *testing.T, e *engine.Engine, index int64, text string) {
	t.Helper()
	want(t, "Do "+strconv.FormatInt(index, 10)+": "+text, e.Do(batch(index, text)), api.OK)
}

// tell says all that an engine has.
func tell(e *engine.Engine) string {
	return tellScan(e, "", "", false)
}

func tellScan(e *engine.Engine, from, to string, end bool) string {
	var words []string
	for p := range e.Scan([]byte(from), []byte(to), end) {
		words = append(words, string(p.Key)+"="+string(p.Value))
	}
	return strings.Join(words, " ")
}

// has says what an engine has, by Scan, and by Get of each key.
func has(t *testing.T, e *engine.Engine, text string) {
	t.Helper()
	if got := tell(e); got != text {
		t.Fatalf("Scan: %.300q, want %.300q", got, text)
	}
	for _, p := range pairs(text) {
		value, is, no := e.Get(p.Key)
		if no != api.OK || !is || !bytes.Equal(value, p.Value) {
			t.Fatalf("Get(%s): %q, %v, %v; want %q", p.Key, value, is, no, p.Value)
		}
	}
}

// hasNot says of a key that it has no value.
func hasNot(t *testing.T, e *engine.Engine, keys ...string) {
	t.Helper()
	for _, key := range keys {
		if value, is, no := e.Get([]byte(key)); len(value) > 0 || is || no != api.OK {
			t.Fatalf("Get(%q): %q, %v, %v; want none", key, value, is, no)
		}
	}
}

// stands says how an engine stands.
func stands(t *testing.T, e *engine.Engine, index, flushed, seq int64, memory, tables int) {
	t.Helper()
	if got, want := e.At(), (api.EngineAt{Index: index, Flushed: flushed, Seq: seq, Memory: memory, Tables: tables}); got != want {
		t.Fatalf("At: %+v, want %+v", got, want)
	}
}

// read is a file's bytes.
func read(t *testing.T, d *disk.Disk, name string) []byte {
	t.Helper()
	b, no := d.Read(name)
	if no != api.OK {
		t.Fatalf("%s: %v; %s", name, no, tellDisk(d))
	}
	return b
}

// write makes a file what these bytes are, all of which last.
func write(t *testing.T, d *disk.Disk, name string, b []byte) {
	t.Helper()
	d.Remove(name)
	if d.Append(name, b) != api.OK || d.Sync(name) != api.OK {
		t.Fatalf("no room for %s", name)
	}
}

// tellDisk says which files there are, and how many bytes they have.
func tellDisk(d *disk.Disk) string {
	var words []string
	for name, b := range d.All() {
		words = append(words, name+":"+strconv.Itoa(len(b)))
	}
	return strings.Join(words, " ")
}

// manifestOf is the name of the manifest.
func manifestOf(t *testing.T, d *disk.Disk) string {
	t.Helper()
	return string(read(t, d, prefix+"cur"))
}

// number puts a number behind a name.
func number(name string, n int64) string {
	return prefix + name + strconv.FormatInt(n, 10)
}

// whole says that the files which an engine's version names are there, and whole, and no others of its kinds; and that what is on the disk says that version.
func whole(t *testing.T, e *engine.Engine, d *disk.Disk) {
	t.Helper()
	v := e.Version()
	names := []string{prefix + "cur", manifestOf(t, d), number("log.", v.Log)}
	for _, at := range v.Tables {
		name := number("t.", at.Number)
		names = append(names, name)
		b := read(t, d, name)
		got, no := table.Open(b)
		if no != api.OK || int64(len(b)) != at.Size {
			t.Fatalf("%s: %v, %d bytes; %+v", name, no, len(b), at)
		}
		first, _ := got.First()
		last, _ := got.Last()
		if !bytes.Equal(first.Key, at.First) || !bytes.Equal(last.Key, at.Last) {
			t.Fatalf("%s: %s-%s; %+v", name, first.Key, last.Key, at)
		}
		if n, _ := d.Lasting(name); n != len(b) {
			t.Fatalf("%s: %d of %d bytes last", name, n, len(b))
		}
	}
	sort.Strings(names)
	var mine []string
	for _, name := range d.Names() {
		if strings.HasPrefix(name, prefix) && !strings.HasPrefix(name, prefix+"raft") {
			mine = append(mine, name)
		}
	}
	if !slices.Equal(mine, names) {
		t.Fatalf("files: %q, want %q", mine, names)
	}
	b := read(t, d, manifestOf(t, d))
	said, n, well := edit.Read(b)
	if !edit.Same(said, v) || n != len(b) || !well {
		t.Fatalf("the manifest says %+v, %d of %d, %v; want %+v", said, n, len(b), well, v)
	}
	for _, name := range names[:2] {
		if n, _ := d.Lasting(name); name != number("log.", v.Log) && n != len(read(t, d, name)) {
			t.Fatalf("%s: %d bytes last", name, n)
		}
	}
	at := e.At()
	if !edit.May(v) || at.Flushed != v.Index || at.Tables != len(v.Tables) || at.Index < v.Index || at.Seq < v.Seq {
		t.Fatalf("At: %+v, %+v", at, v)
	}
}

// crash is what a crash leaves of a disk, of each file as many loose bytes as loose answers.
func crash(t *testing.T, d *disk.Disk, loose func(name string, most int) int) *disk.Disk {
	t.Helper()
	var keep []api.Kept
	for name, b := range d.All() {
		n, _ := d.Lasting(name)
		keep = append(keep, api.Kept{Name: name, Loose: loose(name, len(b)-n)})
	}
	after, no := d.Crash(keep...)
	want(t, "Crash", no, api.OK)
	return after
}

func nothing(string, int) int           { return 0 }
func everything(_ string, most int) int { return most }

// isZero says that beside an error there is nothing.
func isZero(t *testing.T, got ...any) {
	t.Helper()
	for _, one := range got {
		if v := reflect.ValueOf(one); one != nil && !v.IsZero() {
			t.Fatalf("beside an error: %v", one)
		}
	}
}

// chance answers numbers by a rule that hangs on seed.
func chance(seed uint32) func(most int) int {
	x := seed*2654435761 + 1
	return func(most int) int {
		x = x*1664525 + 1013904223
		return int(x >> 12 % uint32(most))
	}
}

// moment is what an engine is behind a batch: its place, its last number, and what it has.
type moment struct {
	index, seq int64
	pairs      map[string]string
}

// text says a moment.
func (m moment) text() string {
	var words []string
	for _, key := range slices.Sorted(maps.Keys(m.pairs)) {
		words = append(words, key+"="+m.pairs[key])
	}
	return fmt.Sprintf("%d %d: %s", m.index, m.seq, strings.Join(words, " "))
}

// behind is what comes of a moment by a batch.
func (m moment) behind(b api.Batch, table ...api.Pair) moment {
	next := moment{index: b.Index, seq: m.seq + int64(len(table)+len(b.Entries)), pairs: maps.Clone(m.pairs)}
	for _, p := range table {
		next.pairs[string(p.Key)] = string(p.Value)
	}
	for _, one := range b.Entries {
		if one.Kind == api.KindPut {
			next.pairs[string(one.Key)] = string(one.Value)
		} else {
			delete(next.pairs, string(one.Key))
		}
	}
	return next
}

// momentOf is what an engine is.
func momentOf(e *engine.Engine) moment {
	at := e.At()
	m := moment{index: at.Index, seq: at.Seq, pairs: map[string]string{}}
	for p := range e.Scan(nil, nil, false) {
		m.pairs[string(p.Key)] = string(p.Value)
	}
	return m
}

// is says that an engine is just that, by Scan and by Get.
func is(t *testing.T, e *engine.Engine, m moment) {
	t.Helper()
	if got := momentOf(e); got.text() != m.text() {
		t.Fatalf("is %.400s\nwant %.400s", got.text(), m.text())
	}
	last := ""
	for p := range e.Scan(nil, nil, false) {
		if last != "" && string(p.Key) <= last {
			t.Fatalf("%q behind %q", p.Key, last)
		}
		last = string(p.Key)
		value, is, no := e.Get(p.Key)
		if no != api.OK || !is || !bytes.Equal(value, p.Value) {
			t.Fatalf("Get(%q): %q, %v, %v; want %q", p.Key, value, is, no, p.Value)
		}
	}
}
