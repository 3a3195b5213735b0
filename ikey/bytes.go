package ikey

import (
	"bytes"

	"hectare/api"
	"hectare/wire"
)

// Bytes answers the entry's bytes.
func Bytes(e api.Entry) ([]byte, api.Errno) {
	if !May(e) {
		return nil, api.ErrArg
	}
	form := wire.Join(wire.Bytes(e.Key), wire.Number(uint64(e.Seq)), wire.Number(uint64(e.Kind)))
	if e.Kind == api.KindPut {
		form = append(form, wire.Bytes(e.Value)...)
	}
	return form, api.OK
}

// Read answers the entry whose bytes b are.
func Read(b []byte) (api.Entry, api.Errno) {
	r := wire.Open(b)
	key, _ := r.Bytes(api.MaxInner)
	seq, _ := r.Number()
	kind, _ := r.Number()
	value, _ := r.Bytes(api.MaxBlob) // a delete has none
	e := api.Entry{Key: key, Seq: int64(seq), Kind: api.Kind(kind), Value: value}
	// Whatever the reader refused by the way: b are the bytes of e, or of no entry.
	if form, no := Bytes(e); no != api.OK || !bytes.Equal(form, b) {
		return api.Entry{}, api.ErrBytes
	}
	return e, api.OK
}

// List answers the bytes of entries, in whatever order they stand.
func List(l ...api.Entry) ([]byte, api.Errno) {
	if len(l) > api.MaxList || !allMay(l) {
		return nil, api.ErrArg
	}
	return wire.Put(l, func(e api.Entry) []byte {
		form, _ := Bytes(e) // each of them may be
		return wire.Bytes(form)
	})
}

// Lists answers the entries whose list's bytes b are.
func Lists(b []byte) ([]api.Entry, api.Errno) {
	r := wire.Open(b)
	l, no := wire.Take(r, api.MaxList, func(r *wire.Reader) (api.Entry, api.Errno) {
		form, no := r.Bytes(r.Left())
		if no != api.OK {
			return api.Entry{}, no
		}
		return Read(form)
	})
	if no != api.OK || r.End() != api.OK {
		return nil, api.ErrBytes
	}
	return l, api.OK
}
