package wal

import (
	"bytes"
	"iter"

	"hectare/api"
	"hectare/frame"
	"hectare/ikey"
	"hectare/wire"
)

// Batches answers the batches that a log's bytes begin with, how many bytes these have, and whether nothing is behind them but what a crash leaves there.
func Batches(b []byte) ([]api.Batch, int, bool) {
	var l []api.Batch
	size := 0
	for end, one := range each(frame.All(b)) {
		l, size = append(l, one), end
	}
	_, whole := frame.Whole(b)
	return l, size, size == whole && !frame.Odd(b)
}

// After goes over those of a log's batches whose Index is above index.
func After(b []byte, index int64) iter.Seq[api.Batch] {
	frames := frame.All(b) // of bytes of its own: the caller's may be changed ahead of any going over
	return func(yield func(api.Batch) bool) {
		for _, one := range each(frames) {
			if one.Index > index && !yield(one) {
				return
			}
		}
	}
}

// each goes over the batches that a log's frames begin with: of each where its frame ends, and the batch.
func each(frames iter.Seq2[int, []byte]) iter.Seq2[int, api.Batch] {
	return func(yield func(int, api.Batch) bool) {
		next := rising()
	log:
		for at, payload := range frames {
			one, is := next(payload)
			switch {
			case !is: // whatever stands behind it is not this log's
				break log
			case !yield(at+frame.Size(len(payload)), one):
				break log
			}
		}
	}
}

// rising answers a function that is told payloads, one behind the other, and tells of each its batch, and whether there is one that rises.
func rising() func(payload []byte) (api.Batch, bool) {
	last := int64(0) // below each batch's Index
	return func(payload []byte) (api.Batch, bool) {
		b, is := batchOf(payload)
		if !is || b.Index <= last {
			return api.Batch{}, false
		}
		last = b.Index
		return b, true
	}
}

// batchOf answers the batch around whose form a frame stands, and whether it is one's.
func batchOf(payload []byte) (api.Batch, bool) {
	r := wire.Open(payload)
	index, _ := r.Number()
	list, _ := r.Bytes(r.Left())
	entries, _ := ikey.Lists(list)
	b := api.Batch{Index: int64(index), Entries: entries}
	// Whatever was refused by the way: payload is the form of b, or of no batch.
	if !May(b) || !bytes.Equal(form(b), payload) {
		return api.Batch{}, false
	}
	return b, true
}
