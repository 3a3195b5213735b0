package disk

import (
	"bytes"
	"maps"
	"slices"

	"hectare/api"
)

// Crash answers the disk that a crash of this one leaves, which keeps of each file as many loose bytes as keep says.
func (d *Disk) Crash(keep ...api.Kept) (*Disk, api.Errno) {
	loose := map[string]int{}
	var names []string
	for _, k := range keep {
		loose[k.Name] = k.Loose
		names = append(names, k.Name)
	}
	wrong := func() api.Errno {
		if len(loose) < len(keep) || slices.ContainsFunc(keep, below0) { // fewer names than were said: one stands there twice
			return api.ErrArg
		}
		for _, name := range names {
			if e := d.lacks(name)(); e != api.OK {
				return e
			}
		}
		return api.OK
	}
	if e := d.refused(wrong, names...); e != api.OK {
		return nil, e
	}
	return d.another(func(name string, f file) file {
		left := f.lasts + min(loose[name], len(f.bytes)-f.lasts)
		return file{bytes: f.bytes[:left], lasts: left}
	}), api.OK
}

// Copy answers a disk like this one, that goes on apart.
func (d *Disk) Copy() *Disk {
	if d.none() {
		return nil
	}
	return d.another(func(_ string, f file) file { return f })
}

// Same tells whether both have the same room and the same files, of which as many bytes last.
func Same(a, b *Disk) bool {
	if a.none() || b.none() {
		return a.none() && b.none()
	}
	return a.room == b.room && maps.EqualFunc(a.files, b.files, alike)
}

// another answers a disk in memory of its own, which has of each file what left answers.
func (d *Disk) another(left func(string, file) file) *Disk {
	files := map[string]file{}
	for name, f := range d.each() {
		f = left(name, f)
		f.bytes = slices.Clone(f.bytes)
		files[name] = f
	}
	return &Disk{room: d.room, files: files}
}

func alike(f, g file) bool {
	return f.lasts == g.lasts && bytes.Equal(f.bytes, g.bytes)
}

func below0(k api.Kept) bool {
	return k.Loose < 0
}
