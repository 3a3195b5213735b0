package table

import (
	"iter"
	"slices"

	"hectare/api"
	"hectare/block"
	"hectare/bloom"
	"hectare/ikey"
)

// Get answers the view's entry of the key that one sees who reads at seq, also one that deletes.
func (t *Table) Get(key []byte, seq int64) (api.Entry, api.Errno) {
	if t.none() {
		return api.Entry{}, api.ErrNil
	}
	i := t.first(key, seq)
	if i == len(t.places) || !t.May(key) {
		return api.Entry{}, api.ErrNone
	}
	return block.Get(t.block(t.places[i]), key, seq)
}

// May tells whether the key may be in the view; only no is sure.
func (t *Table) May(key []byte) bool {
	return !t.none() && t.view.has(key) && bloom.May(t.filter, key)
}

// From goes over the view's entries whose keys are not below key.
func (t *Table) From(key []byte) iter.Seq[api.Entry] {
	return t.Clip(key, nil, false).All()
}

// All goes over the view's entries.
func (t *Table) All() iter.Seq[api.Entry] {
	return func(yield func(api.Entry) bool) {
		if t.none() {
			return
		}
		for _, p := range t.places[t.first(t.view.from, api.MaxNumber):] { // none of that key stands ahead of there
			for e := range block.From(t.block(p), t.view.from) {
				if t.view.endsAhead(e.Key) || !yield(e) {
					return
				}
			}
		}
	}
}

// First answers the view's first entry.
func (t *Table) First() (api.Entry, bool) {
	for e := range t.All() {
		return e, true
	}
	return api.Entry{}, false
}

// Last answers the view's last entry.
func (t *Table) Last() (api.Entry, bool) {
	var last api.Entry
	is := false
	for e := range t.From(t.nearEnd()) {
		last, is = e, true
	}
	return last, is
}

// Len answers how many entries the view has.
func (t *Table) Len() int {
	n := 0
	for range t.All() {
		n++
	}
	return n
}

// Blocks answers how many blocks the table has, whatever the view.
func (t *Table) Blocks() int {
	if t.none() {
		return 0
	}
	return len(t.places)
}

// Bytes answers the table's bytes, whatever the view.
func (t *Table) Bytes() []byte {
	if t.none() {
		return nil
	}
	return slices.Clone(t.bytes)
}

func (t *Table) none() bool {
	return t == nil || len(t.places) == 0
}

// block answers the block's bytes.
func (t *Table) block(p place) []byte {
	return t.bytes[p.begin : p.begin+p.size]
}

// first answers which block has the first of all entries that is not ahead of the place of key and seq; how many blocks there are, where all are ahead.
func (t *Table) first(key []byte, seq int64) int {
	i, _ := slices.BinarySearchFunc(t.places, api.Entry{Key: key, Seq: seq}, func(p place, at api.Entry) int {
		return ikey.Compare(p.last, at)
	})
	return i
}

// nearEnd answers a key from which on the view's last entry stands, with few others: that of the last entry of the last block that has none from the view's end on.
func (t *Table) nearEnd() []byte {
	if t.none() {
		return nil
	}
	below := len(t.places)
	if t.view.end {
		below = t.first(t.view.to, api.MaxNumber)
	}
	if below == 0 {
		return nil
	}
	return t.places[below-1].last.Key
}
