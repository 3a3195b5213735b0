package merge

import (
	"iter"
	"slices"

	"hectare/api"
	"hectare/ikey"
)

// Keep goes over the entries of an order that are needed by who reads at floor, or above; bottom: nothing elder lies below, so that a delete hides nothing.
func Keep(all iter.Seq[api.Entry], floor int64, bottom bool) iter.Seq[api.Entry] {
	return func(yield func(api.Entry) bool) {
		seen := seenAt(floor)
		only(all, func(e api.Entry) bool {
			return e.Seq > floor || seen(e) && !(bottom && deletes(e))
		})(yield)
	}
}

// Seen goes over the keys, with their values, that one sees who reads at seq.
func Seen(all iter.Seq[api.Entry], seq int64) iter.Seq[api.Pair] {
	return func(yield func(api.Pair) bool) {
		seen := seenAt(seq)
		for e := range only(all, func(e api.Entry) bool { return seen(e) && !deletes(e) }) {
			if !yield(api.Pair{Key: e.Key, Value: e.Value}) {
				return
			}
		}
	}
}

// Clip goes over the entries whose keys are not below from and, if there is an end, below to.
func Clip(all iter.Seq[api.Entry], from, to []byte, end bool) iter.Seq[api.Entry] {
	begin, behind := slices.Clone(from), slices.Clone(to) // the caller's may be changed ahead of any going over
	return only(all, func(e api.Entry) bool {
		return ikey.CompareKeys(e.Key, begin) >= 0 && (!end || ikey.CompareKeys(e.Key, behind) < 0)
	})
}

// seenAt answers a function that is told an order's entries, one by one, and tells of each whether it is the one of its key that one sees who reads at seq.
func seenAt(seq int64) func(api.Entry) bool {
	var last []byte
	first := true
	return func(e api.Entry) bool {
		if e.Seq > seq || !first && ikey.CompareKeys(e.Key, last) == 0 { // of one key, those behind the first one are elder
			return false
		}
		last, first = slices.Clone(e.Key), false
		return true
	}
}

// only goes over the entries of which wanted tells yes, in new memory; of nil over none.
func only(all iter.Seq[api.Entry], wanted func(api.Entry) bool) iter.Seq[api.Entry] {
	return func(yield func(api.Entry) bool) {
		if all == nil {
			return
		}
		for e := range all {
			if wanted(e) && !yield(ikey.Copy(e)) {
				return
			}
		}
	}
}

// each tells of any entry that it is wanted.
func each(api.Entry) bool {
	return true
}

func deletes(e api.Entry) bool {
	return e.Kind == api.KindDelete
}
