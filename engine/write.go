package engine

import (
	"maps"
	"slices"

	"hectare/api"
	"hectare/edit"
	"hectare/table"
)

// change is an edit that is not written yet, and the tables that it adds.
type change struct {
	edit   api.Edit
	tables map[int64]*table.Table
}

// changeTo answers a change behind which all up to that place and number is in tables.
func (e *Engine) changeTo(index, seq int64) change {
	v := e.version
	return change{
		edit:   api.Edit{Next: v.Next, Log: v.Log, Index: index, Seq: seq},
		tables: map[int64]*table.Table{},
	}
}

// number answers the number of the next file.
func (c *change) number() int64 {
	n := c.edit.Next
	c.edit.Next++
	return n
}

// add adds rising entries at the level 0, as a table; as several, where one does not take so many.
func (c *change) add(l []api.Entry) {
	for part := range slices.Chunk(l, api.MaxEntries) {
		form, _ := table.Write(part...) // these rise, and are not too many
		c.edit.Add = append(c.edit.Add, api.TableAt{
			Number: c.number(),
			First:  part[0].Key,
			Last:   part[len(part)-1].Key,
			Size:   int64(len(form)),
		})
		c.keep(len(c.edit.Add)-1, form)
	}
}

// keep keeps the table that has these bytes, and that place among the added ones.
func (c *change) keep(i int, form []byte) {
	t, _ := table.Open(form) // they were written as a table
	c.tables[c.edit.Add[i].Number] = t
}

// anotherLog begins a log; what stands in the elder one is needed no more.
func (c *change) anotherLog() {
	c.edit.Log = c.number()
}

// commit writes a change, and does it.
func (e *Engine) commit(c change) api.Errno {
	m, frame, no := e.manifest.behind(c.edit)
	if no != api.OK { // there are no more numbers
		return e.refuse()
	}
	return e.write(c, m, frame)
}

// write writes what a change adds, and then what the manifest has more; the rename, or these bytes, are what makes it done.
func (e *Engine) write(c change, m manifest, frame []byte) api.Errno {
	var steps []func() api.Errno
	for _, at := range c.edit.Add {
		steps = append(steps, e.lasting(e.name(nameTables, at.Number), c.tables[at.Number].Bytes()))
	}
	if c.edit.Log != e.version.Log {
		steps = append(steps, e.lasting(e.name(nameLog, c.edit.Log), nil))
	}
	steps = append(steps, e.lasting(e.name(nameEdits, m.number), frame))
	if m.number != e.manifest.number {
		steps = append(steps, e.lasting(e.prefix+nameNew, []byte(e.name(nameEdits, m.number))), e.renamed(nameNew, nameCur))
	}
	if no := ask(steps...); no != api.OK {
		return e.refuse()
	}
	e.manifest = m
	for _, n := range c.edit.Drop {
		delete(e.tables, n)
	}
	maps.Copy(e.tables, c.tables)
	e.sweep()
	return api.OK
}

// ask does what the disk is asked, one behind the other, up to the first refusal.
func ask(steps ...func() api.Errno) api.Errno {
	for _, step := range steps {
		if no := step(); no != api.OK {
			return no
		}
	}
	return api.OK
}

// lasting asks that these bytes stand behind a file's, and that all of them last.
func (e *Engine) lasting(name string, b []byte) func() api.Errno {
	return func() api.Errno {
		return ask(e.appended(name, b), e.synced(name))
	}
}

func (e *Engine) appended(name string, b []byte) func() api.Errno {
	return func() api.Errno {
		return e.disk.Append(name, b)
	}
}

func (e *Engine) synced(name string) func() api.Errno {
	return func() api.Errno {
		return e.disk.Sync(name)
	}
}

func (e *Engine) renamed(from, to string) func() api.Errno {
	return func() api.Errno {
		return e.disk.Rename(e.prefix+from, e.prefix+to)
	}
}

// refuse takes back what was written of a change that the disk refused; from here on the engine must be opened anew.
func (e *Engine) refuse() api.Errno {
	e.refused = true
	e.sweep()
	return api.ErrFull
}

// sweep removes the engine's files that nobody names, but these.
func (e *Engine) sweep(but ...string) {
	named := append(e.named(), but...)
	for _, name := range e.disk.Names() {
		if e.owns(name) && !slices.Contains(named, name) {
			e.disk.Remove(name)
		}
	}
}

// named answers the names of the files that the engine needs, but cur.
func (e *Engine) named() []string {
	l := []string{e.name(nameEdits, e.manifest.number), e.name(nameLog, e.version.Log)}
	for _, n := range edit.Files(e.version) {
		l = append(l, e.name(nameTables, n))
	}
	return l
}

// owns tells whether a file of that name is one of the engine's, which may be needed no more.
func (e *Engine) owns(name string) bool {
	for _, kind := range []string{nameEdits, nameLog, nameTables} {
		if _, is := e.numberOf(kind, name); is {
			return true
		}
	}
	return name == e.prefix+nameNew
}
