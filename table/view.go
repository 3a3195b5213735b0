package table

import (
	"slices"

	"hectare/ikey"
)

// view is the keys from one on, and, if there is an end, below another one; a zero one is all keys.
type view struct {
	from, to []byte
	end      bool
}

// Clip answers a view of the same table: what both have, this one and the keys from from on, below to, if end.
func (t *Table) Clip(from, to []byte, end bool) *Table {
	if t.none() {
		return nil
	}
	another := *t // nobody changes what both share
	another.view = t.view.within(from, to, end)
	return &another
}

// within answers what the view has of the keys from from on, below to, if end.
func (v view) within(from, to []byte, end bool) view {
	if ikey.CompareKeys(v.from, from) < 0 {
		v.from = slices.Clone(from)
	}
	if end && !v.endsAhead(to) {
		v.to, v.end = slices.Clone(to), true
	}
	return v
}

// has tells whether the key is one of the view's.
func (v view) has(key []byte) bool {
	return ikey.CompareKeys(v.from, key) <= 0 && !v.endsAhead(key)
}

// endsAhead tells whether the view has ended where the key stands.
func (v view) endsAhead(key []byte) bool {
	return v.end && ikey.CompareKeys(v.to, key) <= 0
}
