package disk_test

import (
	"bytes"
	"fmt"
	"math"
	"slices"
	"strings"
	"testing"

	"hectare/api"
	"hectare/disk"
)

// made answers a disk with the least room.
func made(t *testing.T) *disk.Disk {
	t.Helper()
	d, e := disk.New(api.MinDisk)
	if d == nil || e != api.OK {
		t.Fatalf("New: %v, %v", d, e)
	}
	return d
}

// want says which error there is.
func want(t *testing.T, what string, got, want api.Errno) {
	t.Helper()
	if got != want {
		t.Errorf("%s: %v, want %v", what, got, want)
	}
}

// holds says which bytes the file has, and how many of them last.
func holds(t *testing.T, d *disk.Disk, name, all string, lasts int) {
	t.Helper()
	b, e := d.Read(name)
	if string(b) != all || e != api.OK {
		t.Errorf("Read of %s: %.40q (%d bytes), %v, want %.40q", name, b, len(b), e, all)
	}
	if n, e := d.Lasting(name); n != lasts || e != api.OK {
		t.Errorf("Lasting of %s: %d, %v, want %d", name, n, e, lasts)
	}
}

// put appends first, syncs, and appends then.
func put(t *testing.T, d *disk.Disk, name, first, then string) {
	t.Helper()
	want(t, "Append", d.Append(name, []byte(first)), api.OK)
	want(t, "Sync", d.Sync(name), api.OK)
	want(t, "Append", d.Append(name, []byte(then)), api.OK)
}

// nils are a nil disk, and zero ones.
func nils() []*disk.Disk {
	var zero disk.Disk
	return []*disk.Disk{nil, {}, &zero, new(disk.Disk)}
}

// wrongNames are names that may not be: no bytes, too many, and each byte that may not be, anywhere.
func wrongNames() []string {
	l := []string{"", strings.Repeat("a", api.MaxName+1), strings.Repeat("a", 2000), "a b", "a\n", "\u00e9", strings.Repeat("a", api.MaxName) + "\x00"}
	for c := range 256 {
		if c < 33 || c > 126 {
			s := string([]byte{byte(c)})
			l = append(l, s, "a"+s, s+"a", "a"+s+"a", strings.Repeat("a", api.MaxName-1)+s)
		}
	}
	return l
}

// goodNames are names at the edges of what may be.
func goodNames() []string {
	l := []string{strings.Repeat("a", api.MaxName), strings.Repeat("~", api.MaxName-1), "%", "..", "a/b", "!~"}
	for c := 33; c <= 126; c++ {
		l = append(l, string([]byte{byte(c)}))
	}
	return l
}

// P3.1: New.
func TestNew(t *testing.T) {
	for _, room := range []int{math.MinInt, -1024, -1, 0, 1, api.MinDisk - 1, api.MaxDisk + 1, math.MaxInt32, math.MaxInt} {
		if d, e := disk.New(room); d != nil || e != api.ErrArg {
			t.Errorf("New(%d): %v, %v", room, d, e)
		}
	}
	for _, room := range []int{api.MinDisk, api.MinDisk + 1, 5000, api.MaxDisk - 1, api.MaxDisk} {
		d, e := disk.New(room)
		if e != api.OK || d.Room() != room || d.Used() != 0 || len(d.Names()) != 0 {
			t.Errorf("New(%d): %v, room %d, used %d, %q", room, e, d.Room(), d.Used(), d.Names())
		}
	}
}

// The chapter's examples.
func TestExamples(t *testing.T) {
	if _, e := disk.New(1023); e != api.ErrArg {
		t.Errorf("New(1023): %v", e)
	}
	d := made(t)
	want(t, "Append(a b, x)", d.Append("a b", []byte("x")), api.ErrArg)
	want(t, "Append(a, xyz)", d.Append("a", []byte("xyz")), api.OK)
	_, e := d.Read("b")
	want(t, "Read(b)", e, api.ErrNone)
	want(t, "Sync(b)", d.Sync("b"), api.ErrNone)
	want(t, "Sync(a)", d.Sync("a"), api.OK)
	want(t, "Append(a, uv)", d.Append("a", []byte("uv")), api.OK)
	holds(t, d, "a", "xyzuv", 3)
	holds(t, crash(t, d, api.Kept{Name: "a", Loose: 1}), "a", "xyzu", 4)
	want(t, "Rename(a, b)", d.Rename("a", "b"), api.OK)
	want(t, "Rename(a, b)", d.Rename("a", "b"), api.ErrNone)
	if l := d.Names(); !slices.Equal(l, []string{"b"}) {
		t.Errorf("Names: %q", l)
	}
	want(t, "Append(c)", d.Append("c", make([]byte, 1020)), api.ErrFull)
	if d.Used() != 5 {
		t.Errorf("Used: %d", d.Used())
	}
	refused(t, d, api.ErrArg, api.Kept{Name: "b", Loose: -1})
	refused(t, d, api.ErrArg, api.Kept{Name: "b", Loose: 1}, api.Kept{Name: "b", Loose: 1})
	refused(t, d, api.ErrNone, api.Kept{Name: "c", Loose: 1})
	holds(t, crash(t, d), "b", "xyz", 3)
}

// calls are all that name a file, with what they answer beside the error put away, if it is zero.
func calls(t *testing.T) map[string]func(*disk.Disk, string) api.Errno {
	return map[string]func(*disk.Disk, string) api.Errno{
		"Append": func(d *disk.Disk, name string) api.Errno { return d.Append(name, []byte("x")) },
		"Sync":   (*disk.Disk).Sync,
		"from":   func(d *disk.Disk, name string) api.Errno { return d.Rename(name, "other") },
		"to":     func(d *disk.Disk, name string) api.Errno { return d.Rename("other", name) },
		"both":   func(d *disk.Disk, name string) api.Errno { return d.Rename(name, name) },
		"Remove": (*disk.Disk).Remove,
		"Read": func(d *disk.Disk, name string) api.Errno {
			b, e := d.Read(name)
			if e != api.OK && b != nil {
				t.Errorf("beside %v Read(%q) answers %q", e, name, b)
			}
			return e
		},
		"Lasting": func(d *disk.Disk, name string) api.Errno {
			n, e := d.Lasting(name)
			if e != api.OK && n != 0 {
				t.Errorf("beside %v Lasting(%q) answers %d", e, name, n)
			}
			return e
		},
		"Crash": func(d *disk.Disk, name string) api.Errno {
			c, e := d.Crash(api.Kept{Name: name})
			if e != api.OK && c != nil {
				t.Errorf("beside %v Crash(%q) answers a disk", e, name)
			}
			return e
		},
	}
}

// P3.1 to P3.4: ErrNil ahead of all, ErrArg of any name that may not be, ErrNone of one that is no file; what is refused changes nothing.
func TestWhichError(t *testing.T) {
	for what, call := range calls(t) {
		for _, d := range nils() {
			for _, name := range []string{"a", "", "a b", strings.Repeat("a", 33)} {
				want(t, what+" of nil", call(d, name), api.ErrNil)
			}
		}
		d := made(t)
		put(t, d, "a", "xyz", "uv")
		was := d.Copy()
		for _, name := range wrongNames() {
			want(t, fmt.Sprintf("%s of %q", what, name), call(d, name), api.ErrArg)
		}
		if what != "Append" {
			for _, name := range []string{"b", "A", "aa", "other", strings.Repeat("a", 32)} {
				want(t, fmt.Sprintf("%s of %q", what, name), call(d, name), api.ErrNone)
			}
		}
		if !disk.Same(d, was) {
			t.Errorf("%s was refused, and changed the disk: %q", what, d.Names())
		}
	}
}

// P3.1 to P3.4: names at the edges of what may be are taken by all calls.
func TestNamesThatMayBe(t *testing.T) {
	for _, name := range goodNames() {
		for what, call := range calls(t) {
			d := made(t)
			put(t, d, name, "xyz", "uv")
			want(t, "Append of other", d.Append("other", nil), api.OK)
			want(t, fmt.Sprintf("%s of %q", what, name), call(d, name), api.OK)
		}
	}
}

// P3.1: bytes stand behind the file's; what is handed in stays the caller's.
func TestAppend(t *testing.T) {
	d := made(t)
	all := ""
	room := []byte("0123456789abcdef")
	for i := range 60 {
		b := room[i%5 : i%7+5]
		all += string(b)
		want(t, "Append", d.Append("a", b), api.OK)
		holds(t, d, "a", all, 0)
	}
	if string(room) != "0123456789abcdef" {
		t.Errorf("the caller's bytes are changed: %q", room)
	}
	clear(room)
	holds(t, d, "a", all, 0)
	want(t, "Append of nothing", d.Append("b", nil), api.OK)
	want(t, "Append of nothing", d.Append("c", []byte{}), api.OK)
	want(t, "Append of nothing", d.Append("a", nil), api.OK)
	holds(t, d, "a", all, 0)
	holds(t, d, "b", "", 0)
	holds(t, d, "c", "", 0)
	if l := d.Names(); !slices.Equal(l, []string{"a", "b", "c"}) || d.Used() != len(all) {
		t.Errorf("Names, Used: %q, %d", l, d.Used())
	}
	want(t, "Append of any bytes", d.Append("d", []byte{0, 255, 128, 10}), api.OK)
	holds(t, d, "d", "\x00\xff\x80\x0a", 0)
}

// P3.1: no more bytes than the room, in all files together.
func TestNoRoom(t *testing.T) {
	for _, room := range []int{api.MinDisk, 3000, api.MaxDisk} {
		d, _ := disk.New(room)
		put(t, d, "a", "xyz", "uv")
		was := d.Copy()
		want(t, "Append of too much to a", d.Append("a", make([]byte, room-4)), api.ErrFull)
		want(t, "Append of too much to b", d.Append("b", make([]byte, room-4)), api.ErrFull)
		want(t, "Append of far too much", d.Append("b", make([]byte, 2*room)), api.ErrFull)
		if !disk.Same(d, was) {
			t.Errorf("a refused Append changed the disk: %q", d.Names())
		}
		want(t, "Append of the rest", d.Append("b", make([]byte, room-5)), api.OK)
		if d.Used() != room {
			t.Errorf("Used: %d, want %d", d.Used(), room)
		}
		for _, name := range []string{"a", "b", "c"} {
			want(t, "Append to a full disk", d.Append(name, []byte("x")), api.ErrFull)
			want(t, "Append of nothing to a full disk", d.Append(name, nil), api.OK)
		}
		want(t, "Append of a wrong name to a full disk", d.Append("", []byte("x")), api.ErrArg)
		want(t, "Remove", d.Remove("a"), api.OK)
		want(t, "Append of what is free", d.Append("c", make([]byte, 5)), api.OK)
		want(t, "Append of one more", d.Append("c", make([]byte, 1)), api.ErrFull)
	}
}

// P3.1: at most MaxFiles files.
func TestNoMoreFiles(t *testing.T) {
	d := made(t)
	for i := range api.MaxFiles {
		want(t, "Append", d.Append(fmt.Sprint("f", i), []byte("x")[:i%2]), api.OK)
	}
	if len(d.Names()) != api.MaxFiles {
		t.Fatalf("there are %d files", len(d.Names()))
	}
	want(t, "Append of one more", d.Append("g", []byte("x")), api.ErrFull)
	want(t, "Append of one more, with no bytes", d.Append("g", nil), api.ErrFull)
	want(t, "Append of a wrong name", d.Append("g g", nil), api.ErrArg)
	want(t, "Append to one that is there", d.Append("f127", []byte("x")), api.OK)
	want(t, "Rename", d.Rename("f0", "g"), api.OK)
	want(t, "Append of the elder name", d.Append("f0", nil), api.ErrFull)
	want(t, "Rename to one that is there", d.Rename("f1", "g"), api.OK)
	want(t, "Append where one is no more", d.Append("f0", nil), api.OK)
	want(t, "Append of one more", d.Append("h", nil), api.ErrFull)
	want(t, "Remove", d.Remove("f9"), api.OK)
	want(t, "Append where one is no more", d.Append("h", nil), api.OK)
	for _, after := range []*disk.Disk{d.Copy(), crash(t, d)} {
		want(t, "Append of one more", after.Append("i", nil), api.ErrFull)
	}
}

// P3.1: Sync lets all of one file last, and of no other.
func TestSync(t *testing.T) {
	d := made(t)
	put(t, d, "a", "xyz", "uv")
	put(t, d, "b", "", "1")
	holds(t, d, "a", "xyzuv", 3)
	want(t, "Sync", d.Sync("a"), api.OK)
	holds(t, d, "a", "xyzuv", 5)
	want(t, "Sync", d.Sync("a"), api.OK)
	holds(t, d, "a", "xyzuv", 5)
	holds(t, d, "b", "1", 0)
	want(t, "Append", d.Append("a", []byte("w")), api.OK)
	holds(t, d, "a", "xyzuvw", 5)
	if d.Used() != 7 {
		t.Errorf("Used: %d", d.Used())
	}
}

// P3.2: Rename takes bytes along, those that last and loose ones; a file that had the name is no more.
func TestRename(t *testing.T) {
	d := made(t)
	put(t, d, "a", "xyz", "uv")
	put(t, d, "b", "12345678", "9")
	want(t, "Rename to a new name", d.Rename("a", "c"), api.OK)
	holds(t, d, "c", "xyzuv", 3)
	want(t, "Read of the elder name", calls(t)["Read"](d, "a"), api.ErrNone)
	want(t, "Rename to one that is there", d.Rename("c", "b"), api.OK)
	holds(t, d, "b", "xyzuv", 3)
	if l := d.Names(); !slices.Equal(l, []string{"b"}) || d.Used() != 5 {
		t.Errorf("Names, Used: %q, %d", l, d.Used())
	}
	was := d.Copy()
	want(t, "Rename to the same name", d.Rename("b", "b"), api.OK)
	if !disk.Same(d, was) {
		t.Error("Rename to the same name changes the disk")
	}
	want(t, "Rename of none to the same name", d.Rename("a", "a"), api.ErrNone)
	want(t, "Rename of none to one that is there", d.Rename("a", "b"), api.ErrNone)
	want(t, "Rename of none to a wrong name", d.Rename("a", ""), api.ErrArg)
	want(t, "Rename to a wrong name", d.Rename("b", "b b"), api.ErrArg)
	want(t, "Append to the new name", d.Append("b", []byte("!")), api.OK)
	holds(t, d, "b", "xyzuv!", 3)
	holds(t, was, "b", "xyzuv", 3)
}

// P3.2: Remove; a file of that name that comes again has nothing of the elder one.
func TestRemove(t *testing.T) {
	d := made(t)
	put(t, d, "a", "xyz", "uv")
	put(t, d, "b", "1", "2")
	want(t, "Remove", d.Remove("a"), api.OK)
	want(t, "Remove again", d.Remove("a"), api.ErrNone)
	if l := d.Names(); !slices.Equal(l, []string{"b"}) || d.Used() != 2 {
		t.Errorf("Names, Used: %q, %d", l, d.Used())
	}
	want(t, "Append", d.Append("a", []byte("w")), api.OK)
	holds(t, d, "a", "w", 0)
	holds(t, d, "b", "12", 1)
	want(t, "Remove", d.Remove("a"), api.OK)
	want(t, "Remove", d.Remove("b"), api.OK)
	if len(d.Names()) != 0 || d.Used() != 0 || d.Room() != api.MinDisk {
		t.Errorf("an empty disk: %q, %d, %d", d.Names(), d.Used(), d.Room())
	}
}

// P3.3: what Read answers is the caller's.
func TestReadIsNewMemory(t *testing.T) {
	d := made(t)
	put(t, d, "a", "xyz", "uv")
	one, _ := d.Read("a")
	two, _ := d.Read("a")
	clear(one)
	_ = append(one[:2], "!!!!!!"...)
	if !bytes.Equal(two, []byte("xyzuv")) {
		t.Errorf("two answers share memory: %q", two)
	}
	holds(t, d, "a", "xyzuv", 3)
	want(t, "Append", d.Append("a", []byte("w")), api.OK)
	if string(two) != "xyzuv" || string(two[:cap(two)][:5]) != "xyzuv" {
		t.Errorf("an answer changed: %q", two)
	}
}
