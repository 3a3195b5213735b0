package engine

import (
	"slices"

	"hectare/api"
	"hectare/compact"
	"hectare/edit"
	"hectare/ikey"
	"hectare/skip"
	"hectare/wal"
)

// Do writes a batch to the log, and does it.
func (e *Engine) Do(b api.Batch) api.Errno {
	var l []api.Entry
	may := func() bool {
		l = e.numbered(b.Entries)
		return e.mayDo(b.Index, l)
	}
	if no := e.refusal(may); no != api.OK {
		return no
	}
	form, no := wal.Put(api.Batch{Index: b.Index, Entries: l})
	if no != api.OK || ask(e.appended(e.name(nameLog, e.version.Log), form)) != api.OK { // what a frame does not take, no disk has room for
		return e.refuse()
	}
	mem := e.mem
	full := e.fills(l)
	if full { // a flush may be refused, and then nothing was done
		mem = mem.Copy()
	}
	for _, one := range l {
		mem.Put(one)
	}
	seq := e.seq + int64(len(l))
	if full {
		return e.flush(mem, b.Index, seq)
	}
	e.index, e.seq = b.Index, seq
	return api.OK
}

// Sync lets the log last.
func (e *Engine) Sync() api.Errno {
	if no := e.refusal(always); no != api.OK {
		return no
	}
	if ask(e.synced(e.name(nameLog, e.version.Log))) != api.OK {
		return e.refuse()
	}
	return api.OK
}

// Flush makes the table in memory one on the disk.
func (e *Engine) Flush() api.Errno {
	if no := e.refusal(always); no != api.OK || !e.hasMore() {
		return no
	}
	return e.flush(e.mem, e.index, e.seq)
}

// Compact runs the tables together that are next, and tells whether there were any.
func (e *Engine) Compact() (bool, api.Errno) {
	if no := e.refusal(always); no != api.OK {
		return false, no
	}
	job, is := compact.Pick(e.version, e.level)
	if !is {
		return false, api.OK
	}
	var in [][]byte
	for _, at := range slices.Concat(job.In, job.Below) {
		in = append(in, e.tables[at.Number].Bytes())
	}
	out, no := compact.Run(job, in, e.seq, e.memory) // who reads at the greatest number needs one entry a key: such are never too many for a table
	if no != api.OK {
		return false, e.refuse()
	}
	c := e.changeTo(e.version.Index, e.version.Seq)
	if c.edit, no = compact.Edit(e.version, job, out); no != api.OK { // there are no more numbers
		return false, e.refuse()
	}
	for i, form := range out {
		c.keep(i, form)
	}
	no = e.commit(c)
	return no == api.OK, no
}

// Take takes pairs in as a table, with a batch.
func (e *Engine) Take(b api.Batch, table []api.Pair) api.Errno {
	var pairs, l []api.Entry
	may := func() bool {
		pairs = e.numbered(puts(table))
		l = e.numbered(slices.Concat(pairs, b.Entries))
		return ikey.Rising(pairs...) && e.mayDo(b.Index, l[len(pairs):]) && !twice(l)
	}
	if no := e.refusal(may); no != api.OK {
		return no
	}
	c := e.changeTo(b.Index, e.seq+int64(len(l)))
	if e.hasMore() { // the flush is of the same edit: refused, nothing is done
		c.add(slices.Collect(e.mem.From(nil)))
		c.anotherLog()
	}
	c.add(ikey.Sort(l...))
	return e.emptied(c)
}

// Replace makes pairs all that there is.
func (e *Engine) Replace(index int64, all []api.Pair) api.Errno {
	var l []api.Entry
	may := func() bool {
		l = e.numbered(puts(all))
		return index >= e.index && index <= api.MaxNumber && ikey.Rising(l...)
	}
	if no := e.refusal(may); no != api.OK {
		return no
	}
	c := e.changeTo(index, e.seq+int64(len(l)))
	c.edit.Drop = edit.Files(e.version)
	c.add(l)
	c.anotherLog()
	return e.emptied(c)
}

// flush makes a table in memory, which came to that place and number, one on the disk.
func (e *Engine) flush(mem *skip.List, index, seq int64) api.Errno {
	c := e.changeTo(index, seq)
	c.add(slices.Collect(mem.From(nil)))
	c.anotherLog()
	return e.emptied(c)
}

// emptied commits a change behind which nothing is in memory.
func (e *Engine) emptied(c change) api.Errno {
	if no := e.commit(c); no != api.OK {
		return no
	}
	e.mem = skip.New()
	e.index, e.seq = c.edit.Index, c.edit.Seq
	return api.OK
}

// hasMore tells whether the engine has come to more than is in tables; what is in memory is behind that place, too.
func (e *Engine) hasMore() bool {
	return e.index > e.version.Index
}

// fills tells whether the table in memory comes to its bytes by these entries.
func (e *Engine) fills(l []api.Entry) bool {
	size := e.mem.Bytes()
	for _, one := range l {
		size += ikey.Size(one)
	}
	return size >= e.memory
}

// numbered answers the entries with the engine's next numbers.
func (e *Engine) numbered(l []api.Entry) []api.Entry {
	l = slices.Clone(l)
	for i := range l {
		l[i].Seq = e.seq + 1 + int64(i)
	}
	return l
}

// mayDo tells whether a batch of that place and these entries may be done.
func (e *Engine) mayDo(index int64, l []api.Entry) bool {
	return index > e.index && wal.May(api.Batch{Index: index, Entries: l}) && !twice(l)
}

// twice tells whether two entries have one key.
func twice(l []api.Entry) bool {
	sorted := ikey.Sort(l...)
	for i := 1; i < len(sorted); i++ {
		if ikey.CompareKeys(sorted[i-1].Key, sorted[i].Key) == 0 {
			return true
		}
	}
	return false
}

// puts answers entries that put pairs.
func puts(pairs []api.Pair) []api.Entry {
	var l []api.Entry
	for _, p := range pairs {
		l = append(l, api.Entry{Key: p.Key, Kind: api.KindPut, Value: p.Value})
	}
	return l
}
