package ikey

import (
	"iter"
	"sort"

	"hectare/api"
)

// Rising tells whether the entries rise, and all of them may be.
func Rising(l ...api.Entry) bool {
	return rising(l) == len(l) && allMay(l)
}

// Sort answers the entries in order, in new memory.
func Sort(l ...api.Entry) []api.Entry {
	sorted := make([]api.Entry, 0, len(l))
	for _, e := range l {
		sorted = append(sorted, Copy(e))
	}
	sort.SliceStable(sorted, func(i, j int) bool {
		return Compare(sorted[i], sorted[j]) < 0
	})
	return sorted
}

// Latest goes over the entries that one sees who reads at seq: of each key the last one written that is no younger.
func Latest(l []api.Entry, seq int64) iter.Seq[api.Entry] {
	var seen []api.Entry // gathered now: the caller's may be changed ahead of any going over
keys:
	for entries := range byKeys(l[:rising(l)]) {
		for _, e := range entries {
			if e.Seq <= seq {
				seen = append(seen, Copy(e))
				continue keys // all others of that key are elder
			}
		}
	}
	return func(yield func(api.Entry) bool) {
		for _, e := range seen {
			if !yield(Copy(e)) {
				return
			}
		}
	}
}

// rising answers how many entries there are ahead of the first one that does not rise.
func rising(l []api.Entry) int {
	for i := 1; i < len(l); i++ {
		if Compare(l[i-1], l[i]) >= 0 {
			return i
		}
	}
	return len(l)
}

// byKeys goes over the pieces of l that have one key each.
func byKeys(l []api.Entry) iter.Seq[[]api.Entry] {
	return func(yield func([]api.Entry) bool) {
		from := 0
		for i := range l {
			if i+1 < len(l) && CompareKeys(l[i].Key, l[i+1].Key) == 0 {
				continue
			}
			if !yield(l[from : i+1]) {
				return
			}
			from = i + 1
		}
	}
}
