package disk_test

import (
	"bytes"
	"fmt"
	"slices"
	"strings"
	"testing"

	"hectare/api"
	"hectare/disk"
)

// plain is a file as the chapter's words have it.
type plain struct {
	name         string
	lasts, loose []byte
}

// model is a disk as the chapter's words have it: files in a row.
type model struct {
	room  int
	files []plain
}

func (m *model) at(name string) int {
	return slices.IndexFunc(m.files, func(f plain) bool { return f.name == name })
}

func (m *model) used() int {
	n := 0
	for _, f := range m.files {
		n += len(f.lasts) + len(f.loose)
	}
	return n
}

func (m *model) append(name string, b []byte) api.Errno {
	i := m.at(name)
	if m.used()+len(b) > m.room || i < 0 && len(m.files) >= 128 {
		return api.ErrFull
	}
	if i < 0 {
		m.files = append(m.files, plain{name: name})
		i = len(m.files) - 1
	}
	m.files[i].loose = append(m.files[i].loose, b...)
	return api.OK
}

func (m *model) sync(name string) api.Errno {
	i := m.at(name)
	if i < 0 {
		return api.ErrNone
	}
	f := &m.files[i]
	f.lasts, f.loose = append(f.lasts, f.loose...), nil
	return api.OK
}

func (m *model) remove(name string) api.Errno {
	i := m.at(name)
	if i < 0 {
		return api.ErrNone
	}
	m.files = slices.Delete(m.files, i, i+1)
	return api.OK
}

func (m *model) rename(from, to string) api.Errno {
	if m.at(from) < 0 {
		return api.ErrNone
	}
	if from != to {
		m.remove(to)
		m.files[m.at(from)].name = to
	}
	return api.OK
}

// crash keeps of the files so many loose bytes, file by file.
func (m *model) crash(keep []api.Kept) {
	for i := range m.files {
		f := &m.files[i]
		for _, k := range keep {
			if k.Name == f.name {
				f.lasts = append(f.lasts, f.loose[:min(k.Loose, len(f.loose))]...)
			}
		}
		f.loose = nil
	}
}

// agree says that d is what m is.
func agree(t *testing.T, d *disk.Disk, m *model) {
	t.Helper()
	slices.SortFunc(m.files, func(f, g plain) int { return strings.Compare(f.name, g.name) })
	var names []string
	for _, f := range m.files {
		names = append(names, f.name)
		all, e := d.Read(f.name)
		n, e2 := d.Lasting(f.name)
		if !bytes.Equal(all, slices.Concat(f.lasts, f.loose)) || n != len(f.lasts) || e != api.OK || e2 != api.OK {
			t.Fatalf("%s: %d bytes, of which %d last, %v, %v; want %d, %d", f.name, len(all), n, e, e2, len(f.lasts)+len(f.loose), len(f.lasts))
		}
	}
	if !slices.Equal(d.Names(), names) || d.Used() != m.used() || d.Used() > d.Room() || d.Room() != m.room {
		t.Fatalf("Names, Used, Room: %q, %d, %d; want %q, %d, %d", d.Names(), d.Used(), d.Room(), names, m.used(), m.room)
	}
}

// follows says what P3.6 does of a disk and what a crash of it left.
func follows(t *testing.T, d, after *disk.Disk) {
	t.Helper()
	if !slices.Equal(d.Names(), after.Names()) {
		t.Fatalf("behind a crash there are %q, there were %q", after.Names(), d.Names())
	}
	for name, b := range after.All() {
		had, _ := d.Read(name)
		lasted, _ := d.Lasting(name)
		lasts, _ := after.Lasting(name)
		if !bytes.HasPrefix(had, b) || len(b) < lasted || lasts != len(b) {
			t.Fatalf("behind a crash %s has %d bytes, of which %d last; it had %d, of which %d lasted", name, len(b), lasts, len(had), lasted)
		}
	}
}

// chance answers numbers below n, by a rule.
func chance(seed uint32) func(n int) int {
	return func(n int) int {
		seed = seed*1664525 + 1013904223
		return int(seed>>8) % n
	}
}

// keepSome says of some files how many loose bytes are kept.
func keepSome(d *disk.Disk, below func(int) int) []api.Kept {
	var keep []api.Kept
	for _, name := range d.Names() {
		if below(3) > 0 {
			keep = append(keep, api.Kept{Name: name, Loose: below(40)})
		}
	}
	slices.Reverse(keep)
	return keep
}

// P3.1 to P3.6: many calls, one behind the other, held against the model; few names, so that they meet, or many, so that there are too many.
func TestManyCalls(t *testing.T) {
	for seed := range 24 {
		below := chance(uint32(seed))
		room := []int{api.MinDisk, 1500, api.MaxDisk}[seed%3]
		names := []int{4, 200}[seed%2]
		d, _ := disk.New(room)
		m := &model{room: room}
		for range 600 {
			name := fmt.Sprint("f", below(names))
			switch below(9) {
			case 0, 1, 2, 3:
				b := bytes.Repeat([]byte{byte(below(256))}, below(30)*below(6))
				want(t, "Append", d.Append(name, b), m.append(name, b))
			case 4, 5:
				want(t, "Sync", d.Sync(name), m.sync(name))
			case 6:
				to := fmt.Sprint("f", below(names))
				want(t, "Rename", d.Rename(name, to), m.rename(name, to))
			case 7:
				want(t, "Remove", d.Remove(name), m.remove(name))
			case 8:
				keep := keepSome(d, below)
				after := crash(t, d, keep...)
				follows(t, d, after)
				m.crash(keep)
				d = after
			}
			agree(t, d, m)
		}
	}
}

// P3.6: what lasts is there behind any crash, and behind many of them.
func TestWhatLastsIsThere(t *testing.T) {
	d := made(t)
	put(t, d, "log", "1234567890", "abcdef")
	put(t, d, "table", "", "loose")
	for n := range 8 {
		after := crash(t, d, api.Kept{Name: "log", Loose: n})
		follows(t, d, after)
		left := "1234567890abcdef"[:10+min(n, 6)]
		for range 3 {
			holds(t, after, "log", left, len(left))
			holds(t, after, "table", "", 0)
			after = crash(t, after, api.Kept{Name: "table", Loose: 9})
		}
	}
}
