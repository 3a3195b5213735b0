package engine

import (
	"slices"

	"hectare/api"
	"hectare/edit"
	"hectare/frame"
	"hectare/ikey"
	"hectare/table"
	"hectare/wal"
)

// The numbers of a new engine's files, and the next one.
const (
	firstManifest = 1
	firstLog      = 2
	firstNext     = 3
)

// lengthBytes is how many bytes of a frame's head say how long it is.
const lengthBytes = api.FrameHead / 2

// open reads the engine's files, and leaves of them what is named.
func (e *Engine) open() api.Errno {
	name, no := e.disk.Read(e.prefix + nameCur)
	if no != api.OK { // there is none
		return e.begin()
	}
	if !e.readManifest(string(name)) || !e.readTables() {
		return api.ErrCorrupt
	}
	names, is := e.readLogs()
	if !is {
		return api.ErrCorrupt
	}
	e.sweep(names...) // ahead of any writing: a file that nobody names may have the name of one to come
	return e.settle()
}

// begin makes a new engine's files.
func (e *Engine) begin() api.Errno {
	e.sweep() // what a crash has left of another beginning
	m, frame, _ := whole(firstManifest, api.Version{Next: firstNext, Log: firstLog})
	return e.write(change{edit: api.Edit{Log: firstLog}}, m, frame)
}

// settle brings what the logs had into a table, and gives a torn manifest's version a new one.
func (e *Engine) settle() api.Errno {
	log, _ := e.disk.Read(e.name(nameLog, e.version.Log))
	switch {
	case len(log) > 0 || e.hasMore():
		return e.flush(e.mem, e.index, e.seq)
	case e.torn:
		return e.commit(e.changeTo(e.index, e.seq))
	}
	return api.OK
}

// readManifest reads the version, and tells whether it is one's whose manifest has that name.
func (e *Engine) readManifest(name string) bool {
	number, is := e.numberOf(nameEdits, name)
	if !is {
		return false
	}
	b, no := e.disk.Read(name)
	if no != api.OK {
		return false
	}
	v, size, well := edit.Read(b)
	rest := b[size:]
	if !well || frame.Odd(b) || wasWhole(rest) || number >= uint64(v.Next) {
		return false
	}
	e.manifest = manifest{version: v, number: int64(number), size: size, torn: len(rest) > 0}
	e.index, e.seq = v.Index, v.Seq
	return true
}

// wasWhole tells of what looks torn whether it is a whole frame but for one byte of its length: no crash changes that, and all behind it would be lost unseen.
func wasWhole(rest []byte) bool {
	if len(rest) < api.FrameHead {
		return false
	}
	for at := range lengthBytes {
		b := slices.Clone(rest)
		for c := range 256 {
			b[at] = byte(c)
			if frames, _ := frame.Whole(b); frames > 0 {
				return true
			}
		}
	}
	return false
}

// readTables reads the version's tables, and tells whether all of them are there, as it says.
func (e *Engine) readTables() bool {
	for _, at := range e.version.Tables {
		b, _ := e.disk.Read(e.name(nameTables, at.Number)) // no bytes are no table
		t, no := table.Open(b)
		if no != api.OK || int64(len(b)) != at.Size || !e.agrees(t, at) {
			return false
		}
		e.tables[at.Number] = t
	}
	return true
}

// agrees tells whether a table has the keys that the version says, and no number above its greatest one.
func (e *Engine) agrees(t *table.Table, at api.TableAt) bool {
	first, _ := t.First()
	last, _ := t.Last()
	for one := range t.All() {
		if one.Seq > e.version.Seq {
			return false
		}
	}
	return ikey.CompareKeys(first.Key, at.First) == 0 && ikey.CompareKeys(last.Key, at.Last) == 0
}

// readLogs puts what the logs have behind the version's Index into memory; it answers the names of those that had something, and tells whether all of them are as a crash leaves them.
func (e *Engine) readLogs() ([]string, bool) {
	numbers := e.logNumbers()
	if !slices.Contains(numbers, e.version.Log) {
		return nil, false
	}
	var names []string
	torn := false
	for _, n := range numbers {
		b, _ := e.disk.Read(e.name(nameLog, n))
		batches, size, well := wal.Batches(b)
		index := e.index
		if !well || torn && len(batches) > 0 || !e.replay(b) {
			return nil, false
		}
		torn = torn || size < len(b)
		if e.index > index { // it is needed until that is in a table, and no other file may have its name
			names = append(names, e.name(nameLog, n))
			e.version.Next = max(e.version.Next, n+1)
		}
	}
	return names, true
}

// logNumbers answers the numbers of the logs from the version's on, rising.
func (e *Engine) logNumbers() []int64 {
	var numbers []int64
	for _, name := range e.disk.Names() {
		if n, is := e.numberOf(nameLog, name); is && n >= uint64(e.version.Log) && n < api.MaxNumber {
			numbers = append(numbers, int64(n))
		}
	}
	slices.Sort(numbers)
	return numbers
}

// replay puts the batches of a log that are behind the engine's place into memory, and tells whether their entries' numbers rise, as the engine gives them.
func (e *Engine) replay(log []byte) bool {
	for b := range wal.After(log, e.index) {
		for _, one := range b.Entries {
			if one.Seq <= e.seq {
				return false
			}
			e.mem.Put(one) // it may be, and no other has that number
			e.seq = one.Seq
		}
		e.index = b.Index
	}
	return true
}
