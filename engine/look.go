package engine

import (
	"iter"
	"slices"

	"hectare/api"
	"hectare/merge"
)

// Get answers the key's value, and whether it has one.
func (e *Engine) Get(key []byte) ([]byte, bool, api.Errno) {
	if no := e.refusal(always); no != api.OK {
		return nil, false, no
	}
	last, _ := e.mem.Get(key, e.seq) // a zero one, where there is none
	for _, at := range e.version.Tables {
		if one, no := e.tables[at.Number].Get(key, e.seq); no == api.OK && one.Seq > last.Seq {
			last = one
		}
	}
	return last.Value, last.Kind == api.KindPut, api.OK
}

// Scan goes over the keys, with their values, from from on, below to, if end, as they are when it begins.
func (e *Engine) Scan(from, to []byte, end bool) iter.Seq[api.Pair] {
	begin, behind := slices.Clone(from), slices.Clone(to) // the caller's may be changed ahead of any going over
	return func(yield func(api.Pair) bool) {
		if e.none() || e.refused {
			return
		}
		orders := []iter.Seq[api.Entry]{merge.Clip(e.mem.From(begin), begin, behind, end)}
		for _, at := range e.version.Tables {
			orders = append(orders, e.tables[at.Number].Clip(begin, behind, end).All())
		}
		for p := range merge.Seen(merge.Join(orders...), e.seq) { // all of it is gathered ahead of the first pair
			if !yield(p) {
				return
			}
		}
	}
}

// At answers how the engine stands.
func (e *Engine) At() api.EngineAt {
	if e.none() {
		return api.EngineAt{}
	}
	return api.EngineAt{Index: e.index, Flushed: e.version.Index, Seq: e.seq, Memory: e.mem.Bytes(), Tables: len(e.version.Tables)}
}

// Version answers which tables there are.
func (e *Engine) Version() api.Version {
	if e.none() {
		return api.Version{}
	}
	v := e.version
	v.Tables = nil
	for _, t := range e.version.Tables {
		t.First, t.Last = slices.Clone(t.First), slices.Clone(t.Last)
		v.Tables = append(v.Tables, t)
	}
	return v
}
