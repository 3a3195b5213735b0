package edit

import (
	"bytes"
	"slices"

	"hectare/api"
	"hectare/ikey"
)

// Of answers a level's tables.
func Of(v api.Version, level int) []api.TableAt {
	return found(v, func(t api.TableAt) bool {
		return t.Level == level
	})
}

// Overlap answers a level's tables that have keys from first to last.
func Overlap(v api.Version, level int, first, last []byte) []api.TableAt {
	return found(v, func(t api.TableAt) bool {
		return t.Level == level && meet(t.First, t.Last, first, last)
	})
}

// Bytes answers how many bytes a level's tables have.
func Bytes(v api.Version, level int) int64 {
	var n int64
	for _, t := range Of(v, level) {
		n += t.Size
	}
	return n
}

// Files answers the numbers of all tables, rising.
func Files(v api.Version) []int64 {
	var numbers []int64
	for i := range len(v.Tables) {
		numbers = append(numbers, v.Tables[i].Number)
	}
	slices.Sort(numbers)
	return numbers
}

// Same tells whether two versions have all the same.
func Same(a, b api.Version) bool {
	numbers := a.Next == b.Next && a.Log == b.Log && a.Index == b.Index && a.Seq == b.Seq
	return numbers && slices.EqualFunc(a.Tables, b.Tables, func(t, u api.TableAt) bool {
		return t.Number == u.Number && t.Level == u.Level && t.Size == u.Size && bytes.Equal(t.First, u.First) && bytes.Equal(t.Last, u.Last)
	})
}

// found answers the tables, of all levels, of which is says so.
func found(v api.Version, is func(api.TableAt) bool) []api.TableAt {
	var some []api.TableAt
	for _, t := range v.Tables {
		if is(t) {
			some = append(some, t)
		}
	}
	return copies(some)
}

// meet tells whether some key is from first to last, and from from to to.
func meet(first, last, from, to []byte) bool {
	begin := slices.MaxFunc([][]byte{first, from}, ikey.CompareKeys)
	end := slices.MinFunc([][]byte{last, to}, ikey.CompareKeys)
	return ikey.CompareKeys(begin, end) <= 0
}
