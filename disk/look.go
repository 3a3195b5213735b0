package disk

import (
	"iter"
	"maps"
	"slices"

	"hectare/api"
)

// Read answers all bytes of the file, loose ones too.
func (d *Disk) Read(name string) ([]byte, api.Errno) {
	if e := d.refused(d.lacks(name), name); e != api.OK {
		return nil, e
	}
	return slices.Clone(d.files[name].bytes), api.OK
}

// Lasting answers how many bytes of the file last.
func (d *Disk) Lasting(name string) (int, api.Errno) {
	if e := d.refused(d.lacks(name), name); e != api.OK {
		return 0, e
	}
	return d.files[name].lasts, api.OK
}

// Names answers the names of all files, rising.
func (d *Disk) Names() []string {
	var l []string
	for name := range d.each() {
		l = append(l, name)
	}
	return l
}

// Room answers how many bytes there is room for.
func (d *Disk) Room() int {
	if d.none() {
		return 0
	}
	return d.room
}

// Used answers how many bytes all files have.
func (d *Disk) Used() int {
	if d.none() {
		return 0
	}
	return d.used()
}

// All goes over the files by rising names, each with its bytes, as they are when it begins.
func (d *Disk) All() iter.Seq2[string, []byte] {
	return func(yield func(string, []byte) bool) {
		for name, f := range d.each() {
			if !yield(name, slices.Clone(f.bytes)) {
				return
			}
		}
	}
}

// each goes over the files by rising names. It may keep their bytes as they are when it begins without a copy of them, since no byte is written over.
func (d *Disk) each() iter.Seq2[string, file] {
	return func(yield func(string, file) bool) {
		if d.none() {
			return
		}
		files := maps.Clone(d.files)
		for _, name := range slices.Sorted(maps.Keys(files)) {
			if !yield(name, files[name]) {
				return
			}
		}
	}
}

func (d *Disk) used() int {
	n := 0
	for _, f := range d.files {
		n += len(f.bytes)
	}
	return n
}
