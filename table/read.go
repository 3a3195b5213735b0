package table

import (
	"bytes"

	"hectare/api"
	"hectare/block"
	"hectare/wire"
)

// Open answers the table whose bytes b are, all of it in view.
func Open(b []byte) (t *Table, no api.Errno) {
	defer func() {
		if recover() != nil { // somebody gave up by the way
			t, no = nil, api.ErrCorrupt
		}
	}()
	return opened(b), api.OK
}

// opened answers the table whose bytes b are, and gives up where they are no table's.
func opened(b []byte) *Table {
	// Whatever was passed over by the way: b are the bytes of these entries' table, or of none; a refused one has no bytes.
	t, _ := made(entries(b))
	if !bytes.Equal(t.bytes, b) {
		giveUp()
	}
	return &t
}

// entries answers what stands in a table's blocks, of which the first one begins where the bytes do.
func entries(b []byte) []api.Entry {
	var l []api.Entry
	rest := b
	for _, p := range places(b) {
		if p.size > len(rest) {
			giveUp()
		}
		l = append(l, read(block.Read(rest[:p.size]))...)
		rest = rest[p.size:]
	}
	return l
}

// places answers what the index says of the blocks.
func places(b []byte) []place {
	return read(wire.Take(wire.Open(index(b)), api.MaxEntries, takePlace))
}

// index answers what stands where the foot says that the index does.
func index(b []byte) []byte {
	if len(b) < footBytes {
		giveUp()
	}
	ahead, foot := b[:len(b)-footBytes], b[len(b)-footBytes:]
	take := func() uint64 {
		n := uint64(0)
		for _, c := range foot[:numberBytes] {
			n = n<<8 | uint64(c)
		}
		foot = foot[numberBytes:]
		return n
	}
	begin, size := take(), take()
	if begin+size > uint64(len(ahead)) {
		giveUp()
	}
	return ahead[begin : begin+size]
}

// takePlace reads what the index says of a block.
func takePlace(r *wire.Reader) (place, api.Errno) {
	p := place{last: api.Entry{Key: read(r.Bytes(api.MaxInner))}}
	p.last.Seq = int64(number(r))
	p.begin = number(r)
	p.size = number(r)
	return p, api.OK
}

// number reads a number of the index, none of which is greater than MaxNumber.
func number(r *wire.Reader) int {
	n := read(r.Number())
	if n > api.MaxNumber {
		giveUp()
	}
	return int(n)
}

// read answers what was read, and gives up where that was refused.
func read[T any](got T, no api.Errno) T {
	if no != api.OK {
		giveUp()
	}
	return got
}

// giveUp ends the reading, however deep it is in the bytes: they are no table's.
func giveUp() {
	panic(api.ErrCorrupt)
}
