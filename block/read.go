package block

import (
	"bytes"
	"iter"
	"slices"

	"hectare/api"
	"hectare/wire"
)

// Read answers the entries whose block's bytes b are.
func Read(b []byte) (l []api.Entry, no api.Errno) {
	defer func() {
		if recover() != nil { // somebody gave up by the way
			l, no = nil, api.ErrBytes
		}
	}()
	return taken(b), api.OK
}

// Restarts answers where the entries begin from which one can begin.
func Restarts(b []byte) ([]int, api.Errno) {
	l, no := Read(b)
	if no != api.OK {
		return nil, no
	}
	_, restarts := laid(l)
	return restarts, api.OK
}

// taken answers the entries of a block's bytes, and gives up where these are none.
func taken(b []byte) []api.Entry {
	var l []api.Entry
	for e := range entries(body(b)) {
		l = append(l, e)
		if len(l) > api.MaxEach {
			break // no block, however it goes on
		}
	}
	// Whatever was passed over by the way: b are the bytes of these entries, or of none; of what it refuses, Write answers none.
	if block, _ := Write(l...); !bytes.Equal(block, b) {
		giveUp()
	}
	return l
}

// body answers what stands ahead of the restarts, as many as the last bytes say.
func body(b []byte) []byte {
	end := len(b) - placeBytes
	if end < 0 {
		giveUp()
	}
	restarts := 0
	for _, c := range b[end:] {
		restarts = restarts<<8 | int(c)
	}
	if restarts > end/placeBytes {
		giveUp()
	}
	return b[:end-restarts*placeBytes]
}

// entries goes over what stands in the bytes as entries, one behind the other, and gives up where none stands.
func entries(b []byte) iter.Seq[api.Entry] {
	return func(yield func(api.Entry) bool) {
		r := wire.Open(b)
		var ahead []byte
		for r.Left() > 0 {
			e := next(r, ahead)
			if !yield(e) {
				return
			}
			ahead = e.Key
		}
	}
}

// next reads what stands as an entry behind one of the key ahead.
func next(r *wire.Reader, ahead []byte) api.Entry {
	shared := read(r.Number())
	if shared > uint64(len(ahead)) {
		giveUp()
	}
	rest := read(r.Bytes(api.MaxInner))
	e := api.Entry{Key: slices.Concat(ahead[:shared], rest)}
	e.Seq = int64(read(r.Number()))
	e.Kind = api.Kind(read(r.Number()))
	if e.Kind == api.KindPut {
		e.Value = read(r.Bytes(api.MaxBlob))
	}
	return e
}

// read answers what a reader read, and gives up where it was refused.
func read[T any](got T, no api.Errno) T {
	if no != api.OK {
		giveUp()
	}
	return got
}

// giveUp ends the reading, however deep it is in the bytes: they are no block.
func giveUp() {
	panic(api.ErrBytes)
}
