package edit

import (
	"bytes"
	"slices"

	"hectare/api"
	"hectare/frame"
	"hectare/wire"
)

// An edit that is written drops and adds at most so many tables.
const maxList = 4096

// Put answers the frame that says an edit.
func Put(e api.Edit) ([]byte, api.Errno) {
	payload, no := form(e)
	if no != api.OK {
		return nil, no
	}
	return frame.Put(payload) // lists so short never come to MaxPayload
}

// Read answers the version that a manifest says, how many bytes say it, and whether none of the whole frames is refused.
func Read(b []byte) (api.Version, int, bool) {
	v, size := api.Version{Next: 1}, 0
	for at, payload := range frame.All(b) {
		e, is := editOf(payload)
		if !is {
			return v, size, false
		}
		next, is := behind(v, e)
		if !is {
			return v, size, false
		}
		v, size = next, at+frame.Size(len(payload))
	}
	return v, size, true
}

// Whole answers the edit that makes the version of the empty one.
func Whole(v api.Version) (api.Edit, api.Errno) {
	if !May(v) {
		return api.Edit{}, api.ErrArg
	}
	return api.Edit{Add: copies(v.Tables), Next: v.Next, Log: v.Log, Index: v.Index, Seq: v.Seq}, api.OK
}

// form answers an edit's bytes.
func form(e api.Edit) ([]byte, api.Errno) {
	if !mayPut(e) {
		return nil, api.ErrArg
	}
	drop, _ := wire.Put(e.Drop, number)
	add, _ := wire.Put(e.Add, place)
	return wire.Join(drop, add, number(e.Next), number(e.Log), number(e.Index), number(e.Seq)), api.OK
}

// mayPut tells whether an edit has bytes; whether it may be done hangs on the version, too.
func mayPut(e api.Edit) bool {
	if len(e.Drop) > maxList || len(e.Add) > maxList {
		return false
	}
	for _, n := range slices.Concat(e.Drop, []int64{e.Next, e.Log, e.Index, e.Seq}) {
		if n < 0 {
			return false
		}
	}
	return placesMay(e.Add)
}

func number(n int64) []byte {
	return wire.Number(uint64(n))
}

func place(t api.TableAt) []byte {
	return wire.Join(number(t.Number), number(int64(t.Level)), wire.Bytes(t.First), wire.Bytes(t.Last), number(t.Size))
}

// editOf answers the edit whose bytes b are, and whether they are one's.
func editOf(b []byte) (api.Edit, bool) {
	r := wire.Open(b)
	var e api.Edit
	e.Drop, _ = wire.Take(r, maxList, takeNumber)
	e.Add, _ = wire.Take(r, maxList, takePlace)
	e.Next, _ = takeNumber(r)
	e.Log, _ = takeNumber(r)
	e.Index, _ = takeNumber(r)
	e.Seq, _ = takeNumber(r)
	// Whatever the reader refused by the way: b are the bytes of e, or of no edit.
	if again, no := form(e); no != api.OK || !bytes.Equal(again, b) {
		return api.Edit{}, false
	}
	return e, true
}

// takeNumber reads a number; those above all that an int64 has come to be below 0, where none is taken.
func takeNumber(r *wire.Reader) (int64, api.Errno) {
	n, no := r.Number()
	return int64(n), no
}

func takePlace(r *wire.Reader) (api.TableAt, api.Errno) {
	number, _ := takeNumber(r)
	level, _ := takeNumber(r)
	first, _ := r.Bytes(api.MaxInner)
	last, _ := r.Bytes(api.MaxInner)
	size, no := takeNumber(r)
	return api.TableAt{Number: number, Level: int(level), First: first, Last: last, Size: size}, no
}
