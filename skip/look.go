package skip

import (
	"iter"
	"slices"

	"hectare/api"
	"hectare/ikey"
)

// Get answers the entry of the key that one sees who reads at seq, also one that deletes.
func (l *List) Get(key []byte, seq int64) (api.Entry, api.Errno) {
	if l.none() {
		return api.Entry{}, api.ErrNil
	}
	t := l.before(aheadOf(key, seq))[0].next[0] // of one key, greater numbers come first
	if t == nil || ikey.CompareKeys(t.entry.Key, key) != 0 {
		return api.Entry{}, api.ErrNone
	}
	return ikey.Copy(t.entry), api.OK
}

// From goes over the entries whose keys are not below key, as they are when it begins.
func (l *List) From(key []byte) iter.Seq[api.Entry] {
	from := slices.Clone(key) // the caller's may be changed ahead of any going over
	return copies(l.row(0, func(e api.Entry) bool {
		return ikey.CompareKeys(e.Key, from) < 0
	}))
}

// Level goes over the entries that stand in the level n, as they are when it begins.
func (l *List) Level(n int) iter.Seq[api.Entry] {
	return copies(l.row(n, nobody))
}

// Len answers how many entries there are.
func (l *List) Len() int {
	if l.none() {
		return 0
	}
	return l.count
}

// Bytes answers how many bytes the entries' bytes have.
func (l *List) Bytes() int {
	if l.none() {
		return 0
	}
	return l.bytes
}

// Copy answers a list with the same entries, that goes on apart.
func (l *List) Copy() *List {
	if l.none() {
		return nil
	}
	another := New()
	for e := range l.row(0, nobody) {
		another.Put(e) // copies it; it may be, and is not there yet
	}
	return another
}

// Same tells whether both have the same entries.
func Same(a, b *List) bool {
	if a.none() || b.none() {
		return a.none() && b.none()
	}
	s, t := a.head.next[0], b.head.next[0]
	for s != nil && t != nil && ikey.Same(s.entry, t.entry) {
		s, t = s.next[0], t.next[0]
	}
	return s == nil && t == nil
}

// row goes over the list's own entries of a level, from the first one on that is not ahead, as they are when it begins.
func (l *List) row(level int, ahead func(api.Entry) bool) iter.Seq[api.Entry] {
	return func(yield func(api.Entry) bool) {
		if l.none() || level < 0 || level >= api.MaxHeight {
			return
		}
		count := l.count
		for t := l.before(ahead)[level].next[level]; t != nil; t = t.next[level] {
			if t.born < count && !yield(t.entry) {
				return
			}
		}
	}
}

// copies goes over the same entries, in new memory.
func copies(all iter.Seq[api.Entry]) iter.Seq[api.Entry] {
	return func(yield func(api.Entry) bool) {
		for e := range all {
			if !yield(ikey.Copy(e)) {
				return
			}
		}
	}
}

// nobody tells of each entry that it is not ahead.
func nobody(api.Entry) bool {
	return false
}
