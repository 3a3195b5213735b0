package disk_test

import (
	"math"
	"strings"
	"testing"

	"hectare/api"
	"hectare/disk"
)

// crash answers what a crash leaves, and says that d stays as it is.
func crash(t *testing.T, d *disk.Disk, keep ...api.Kept) *disk.Disk {
	t.Helper()
	was := d.Copy()
	after, e := d.Crash(keep...)
	if after == nil || e != api.OK {
		t.Fatalf("Crash(%v): %v, %v", keep, after, e)
	}
	if after == d || !disk.Same(d, was) {
		t.Errorf("Crash(%v) changes the disk itself", keep)
	}
	return after
}

// refused says why a crash is refused, whether or not it is nil, and that d stays as it is.
func refused(t *testing.T, d *disk.Disk, why api.Errno, keep ...api.Kept) {
	t.Helper()
	was := d.Copy()
	if after, e := d.Crash(keep...); after != nil || e != why {
		t.Errorf("Crash(%v): %v, %v, want %v", keep, after, e, why)
	}
	if !disk.Same(d, was) {
		t.Errorf("Crash(%v) was refused, and changes the disk", keep)
	}
}

// P3.4: of each file what lasts, and as many loose bytes as keep says; what is left lasts.
func TestCrash(t *testing.T) {
	d := made(t)
	put(t, d, "a", "xyz", "uvw")
	put(t, d, "b", "", "12")
	put(t, d, "c", "45", "")
	for _, x := range []struct {
		keep    []api.Kept
		a, b, c string
	}{
		{nil, "xyz", "", "45"},
		{[]api.Kept{{Name: "a"}, {Name: "b"}, {Name: "c"}}, "xyz", "", "45"},
		{[]api.Kept{{Name: "a", Loose: 1}}, "xyzu", "", "45"},
		{[]api.Kept{{Name: "b", Loose: 1}, {Name: "a", Loose: 2}}, "xyzuv", "1", "45"},
		{[]api.Kept{{Name: "a", Loose: 3}, {Name: "b", Loose: 2}}, "xyzuvw", "12", "45"},
		{[]api.Kept{{Name: "c", Loose: 1}, {Name: "a", Loose: 4}, {Name: "b", Loose: 3}}, "xyzuvw", "12", "45"},
		{[]api.Kept{{Name: "a", Loose: math.MaxInt}, {Name: "b", Loose: math.MaxInt - 1}, {Name: "c", Loose: math.MaxInt}}, "xyzuvw", "12", "45"},
	} {
		after := crash(t, d, x.keep...)
		holds(t, after, "a", x.a, len(x.a))
		holds(t, after, "b", x.b, len(x.b))
		holds(t, after, "c", x.c, len(x.c))
		if len(after.Names()) != 3 || after.Room() != d.Room() || after.Used() != len(x.a+x.b+x.c) {
			t.Errorf("behind Crash(%v): %q, %d, %d", x.keep, after.Names(), after.Room(), after.Used())
		}
		if again := crash(t, after); !disk.Same(after, again) {
			t.Errorf("behind Crash(%v) something does not last", x.keep)
		}
	}
}

// P3.4: which error; ErrArg of any of keep is ahead of ErrNone of any other.
func TestCrashRefused(t *testing.T) {
	d := made(t)
	put(t, d, "a", "xyz", "uvw")
	put(t, d, "b", "", "12")
	long := strings.Repeat("a", api.MaxName+1)
	for _, x := range []struct {
		why  api.Errno
		keep []api.Kept
	}{
		{api.ErrArg, []api.Kept{{Name: "a", Loose: -1}}},
		{api.ErrArg, []api.Kept{{Name: "a", Loose: math.MinInt}}},
		{api.ErrArg, []api.Kept{{Name: "a", Loose: 1}, {Name: "b", Loose: -1}}},
		{api.ErrArg, []api.Kept{{Name: "a", Loose: 1}, {Name: "a", Loose: 1}}},
		{api.ErrArg, []api.Kept{{Name: "a", Loose: 1}, {Name: "b"}, {Name: "a", Loose: 2}}},
		{api.ErrArg, []api.Kept{{Name: "a", Loose: -1}, {Name: "a", Loose: 2}}},
		{api.ErrArg, []api.Kept{{Name: "a", Loose: 2}, {Name: "a", Loose: -1}}},
		{api.ErrArg, []api.Kept{{Name: "", Loose: 1}}},
		{api.ErrArg, []api.Kept{{Name: long, Loose: 1}}},
		{api.ErrArg, []api.Kept{{Name: "a", Loose: 1}, {Name: "a b", Loose: 1}}},
		{api.ErrArg, []api.Kept{{Name: "none", Loose: 1}, {Name: "a b", Loose: 1}}},
		{api.ErrArg, []api.Kept{{Name: "none", Loose: 1}, {Name: "a", Loose: -1}}},
		{api.ErrArg, []api.Kept{{Name: "none", Loose: 1}, {Name: "none", Loose: 1}}},
		{api.ErrArg, []api.Kept{{Name: "none", Loose: -1}}},
		{api.ErrArg, []api.Kept{{Name: "none"}, {Name: "a"}, {Name: "a"}}},
		{api.ErrNone, []api.Kept{{Name: "none"}}},
		{api.ErrNone, []api.Kept{{Name: "A", Loose: 1}}},
		{api.ErrNone, []api.Kept{{Name: "a", Loose: 1}, {Name: "none", Loose: 1}, {Name: "b", Loose: 1}}},
	} {
		refused(t, d, x.why, x.keep...)
		for _, none := range nils() {
			refused(t, none, api.ErrNil, x.keep...)
		}
	}
	for _, none := range nils() {
		refused(t, none, api.ErrNil)
	}
}

// P3.4: keep stays the caller's.
func TestCrashLeavesKeep(t *testing.T) {
	d := made(t)
	put(t, d, "a", "xyz", "uvw")
	put(t, d, "b", "", "12")
	keep := []api.Kept{{Name: "b", Loose: 99}, {Name: "a", Loose: 1}}
	crash(t, d, keep...)
	if keep[0] != (api.Kept{Name: "b", Loose: 99}) || keep[1] != (api.Kept{Name: "a", Loose: 1}) {
		t.Errorf("keep is changed: %v", keep)
	}
}

// apart says that what is done to one of two disks is not seen on the other one.
func apart(t *testing.T, one, two *disk.Disk) {
	t.Helper()
	was := two.Copy()
	want(t, "Append", one.Append("a", []byte("!!!!!!!!")), api.OK)
	want(t, "Append", one.Append("new", []byte("?")), api.OK)
	want(t, "Sync", one.Sync("b"), api.OK)
	want(t, "Rename", one.Rename("a", "b"), api.OK)
	if !disk.Same(two, was) {
		t.Errorf("two disks do not go on apart: %q", two.Names())
	}
}

// P3.4, P3.5: another disk goes on apart, in both ways.
func TestApart(t *testing.T) {
	for _, other := range []func(*disk.Disk) *disk.Disk{
		(*disk.Disk).Copy,
		func(d *disk.Disk) *disk.Disk { return crash(t, d) },
		func(d *disk.Disk) *disk.Disk {
			return crash(t, d, api.Kept{Name: "a", Loose: 2}, api.Kept{Name: "b", Loose: 9})
		},
	} {
		for _, turned := range []bool{false, true} {
			d := made(t)
			put(t, d, "a", "xyz", "uvw")
			put(t, d, "b", "", "12")
			if o := other(d); turned {
				apart(t, o, d)
			} else {
				apart(t, d, o)
			}
		}
	}
	d := made(t)
	put(t, d, "a", "xyz", "u")
	one, two := d.Copy(), d.Copy()
	want(t, "Append", one.Append("a", []byte("111")), api.OK)
	want(t, "Append", two.Append("a", []byte("222")), api.OK)
	want(t, "Append", d.Append("a", []byte("333")), api.OK)
	holds(t, one, "a", "xyzu111", 3)
	holds(t, two, "a", "xyzu222", 3)
	holds(t, d, "a", "xyzu333", 3)
}

// P3.5: Copy has the room, the bytes, and how many of them last.
func TestCopy(t *testing.T) {
	d, _ := disk.New(3000)
	put(t, d, "a", "xyz", "uvw")
	put(t, d, "b", "", "")
	c := d.Copy()
	if c == d || !disk.Same(c, d) || c.Room() != 3000 || c.Used() != 6 || len(c.Names()) != 2 {
		t.Errorf("Copy: %d, %d, %q", c.Room(), c.Used(), c.Names())
	}
	holds(t, c, "a", "xyzuvw", 3)
	holds(t, c, "b", "", 0)
	want(t, "Append", c.Append("c", make([]byte, 2995)), api.ErrFull)
	want(t, "Append", c.Append("c", make([]byte, 2994)), api.OK)
}

// P3.5: Same: room, names, bytes, how many last; nil and zero ones.
func TestSame(t *testing.T) {
	base := func() *disk.Disk {
		d := made(t)
		put(t, d, "a", "xyz", "uvw")
		put(t, d, "b", "", "")
		return d
	}
	larger, _ := disk.New(api.MinDisk + 1)
	put(t, larger, "a", "xyz", "uvw")
	put(t, larger, "b", "", "")
	others := []*disk.Disk{larger, made(t), nil, {}}
	for _, change := range []func(*disk.Disk) api.Errno{
		func(d *disk.Disk) api.Errno { return d.Append("a", []byte("!")) },
		func(d *disk.Disk) api.Errno { return d.Append("c", nil) },
		func(d *disk.Disk) api.Errno { return d.Sync("a") },
		func(d *disk.Disk) api.Errno { return d.Remove("b") },
		func(d *disk.Disk) api.Errno { return d.Rename("b", "c") },
		func(d *disk.Disk) api.Errno { return d.Rename("b", "a") },
	} {
		d := base()
		want(t, "the change", change(d), api.OK)
		others = append(others, d)
	}
	otherBytes := made(t)
	put(t, otherBytes, "a", "xyz", "uvW")
	put(t, otherBytes, "b", "", "")
	others = append(others, otherBytes)
	for i, d := range others {
		if disk.Same(d, base()) || disk.Same(base(), d) {
			t.Errorf("the disk %d is as another one", i)
		}
	}
	d := base()
	if !disk.Same(d, d) || !disk.Same(d, base()) || !disk.Same(made(t), made(t)) {
		t.Error("disks are not the same that are")
	}
	turned := made(t)
	put(t, turned, "b", "", "")
	put(t, turned, "old", "xy", "")
	put(t, turned, "old", "z", "uvw")
	want(t, "Rename", turned.Rename("old", "a"), api.OK)
	if !disk.Same(d, turned) {
		t.Error("it matters how the files came to be")
	}
	for _, one := range nils() {
		for _, two := range nils() {
			if !disk.Same(one, two) {
				t.Error("two nil disks are not the same")
			}
		}
		if disk.Same(one, made(t)) || disk.Same(made(t), one) {
			t.Error("a nil disk is as one without files")
		}
	}
}
