package block

import (
	"iter"

	"hectare/api"
	"hectare/ikey"
)

// Get answers the block's entry of the key that one sees who reads at seq, also one that deletes.
func Get(b, key []byte, seq int64) (api.Entry, api.Errno) {
	l, no := Read(b)
	if no != api.OK {
		return api.Entry{}, no
	}
	i := first(l, api.Entry{Key: key, Seq: seq}) // of one key, greater numbers come first
	if i == len(l) || ikey.CompareKeys(l[i].Key, key) != 0 {
		return api.Entry{}, api.ErrNone
	}
	return l[i], api.OK
}

// From goes over the block's entries whose keys are not below key; over nothing where b are no block's bytes.
func From(b, key []byte) iter.Seq[api.Entry] {
	l, _ := Read(b)                                           // now: the caller's bytes may be changed ahead of any going over
	l = l[first(l, api.Entry{Key: key, Seq: api.MaxNumber}):] // none of that key stands ahead of there
	return func(yield func(api.Entry) bool) {
		for _, e := range l {
			if !yield(ikey.Copy(e)) {
				return
			}
		}
	}
}

// first answers where the first one of rising entries stands that is not ahead of at, by halves; behind the last one, where all of them are ahead.
func first(l []api.Entry, at api.Entry) int {
	low, high := 0, len(l)
halves:
	for low < high {
		middle := (low + high) / 2
		if ikey.Compare(l[middle], at) < 0 {
			low = middle + 1
			continue halves
		}
		high = middle
	}
	return low
}
