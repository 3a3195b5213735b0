package compact

import (
	"slices"

	"hectare/api"
	"hectare/edit"
	"hectare/table"
)

// Edit answers what changes in a version when a job's tables become out.
func Edit(v api.Version, j api.Job, out [][]byte) (api.Edit, api.Errno) {
	if !isThere(v, j) {
		return api.Edit{}, api.ErrArg
	}
	e := api.Edit{Next: v.Next, Log: v.Log, Index: v.Index, Seq: v.Seq}
	for _, t := range slices.Concat(j.In, j.Below) {
		e.Drop = append(e.Drop, t.Number)
	}
	for _, b := range out {
		t, no := table.Open(b)
		if no != api.OK {
			return api.Edit{}, api.ErrArg
		}
		e.Add = append(e.Add, place(t, e.Next, j.Level+1))
		e.Next++
	}
	if _, no := edit.Do(v, e); no != api.OK { // the version may not be, keys overlap, or the job has a table twice
		return api.Edit{}, api.ErrArg
	}
	return e, api.OK
}

// isThere tells whether a job's tables are the version's, at its level and the next one.
func isThere(v api.Version, j api.Job) bool {
	if j.Level < 0 || j.Level >= api.MaxLevels-1 { // the last one has no next one
		return false
	}
	return has(edit.Of(v, j.Level), j.In) && has(edit.Of(v, j.Level+1), j.Below)
}

// has tells whether all of some places are among these.
func has(these, some []api.TableAt) bool {
	for _, t := range some {
		same := func(other api.TableAt) bool {
			return edit.Same(api.Version{Tables: []api.TableAt{t}}, api.Version{Tables: []api.TableAt{other}})
		}
		if !slices.ContainsFunc(these, same) {
			return false
		}
	}
	return true
}

// place answers the table's place, by that number, at that level.
func place(t *table.Table, number int64, level int) api.TableAt {
	first, _ := t.First() // no table is without entries
	last, _ := t.Last()
	return api.TableAt{Number: number, Level: level, First: first.Key, Last: last.Key, Size: int64(len(t.Bytes()))}
}
