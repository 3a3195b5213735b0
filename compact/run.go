package compact

import (
	"iter"
	"slices"

	"hectare/api"
	"hectare/ikey"
	"hectare/merge"
	"hectare/table"
)

// Run answers the tables that a job's tables become, whose bytes these are; they have what is needed by who reads at floor, or above.
func Run(j api.Job, tables [][]byte, floor int64, size int) ([][]byte, api.Errno) {
	if len(tables) != len(j.In)+len(j.Below) || size < 1 {
		return nil, api.ErrArg
	}
	var orders []iter.Seq[api.Entry]
	for _, b := range tables {
		t, no := table.Open(b)
		if no != api.OK {
			return nil, no
		}
		orders = append(orders, t.All())
	}
	return written(merge.Keep(merge.Join(orders...), floor, j.Bottom), size)
}

// written answers the tables of an order's parts.
func written(all iter.Seq[api.Entry], size int) ([][]byte, api.Errno) {
	rest := slices.Collect(all)
	cut := func() []api.Entry {
		n := fit(rest, size)
		part := rest[:n]
		rest = rest[n:]
		return part
	}
	var out [][]byte
	for len(rest) > 0 {
		b, no := table.Write(cut()...)
		if no != api.OK { // no part: a key has more entries than a table
			return nil, no
		}
		out = append(out, b)
	}
	return out, api.OK
}

// fit answers how many of the first entries are one part: key by key, until they are enough. A key that a table does not take beside these begins the next part, as its entries stand in one; of a key that no table takes there is no part.
func fit(l []api.Entry, size int) int {
	n, bytes := 0, 0
	for n < len(l) && n < api.MaxEntries/2 && bytes < size {
		key := ofOneKey(l[n:])
		if n+len(key) > api.MaxEntries {
			break
		}
		for _, e := range key {
			bytes += ikey.Size(e)
		}
		n += len(key)
	}
	return n
}

// ofOneKey answers the first entries that are of the first one's key.
func ofOneKey(l []api.Entry) []api.Entry {
	for n, e := range l {
		if ikey.CompareKeys(e.Key, l[0].Key) != 0 {
			return l[:n]
		}
	}
	return l
}
