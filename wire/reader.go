package wire

import (
	"slices"

	"hectare/api"
)

// Reader goes over bytes, form by form.
type Reader struct {
	left []byte
	open bool // tells a reader of no bytes from a zero one, which is as nil
}

// Open answers a reader at the beginning of b, which may be changed later on.
func Open(b []byte) *Reader {
	return &Reader{left: slices.Clone(b), open: true}
}

// Number reads a number.
func (r *Reader) Number() (uint64, api.Errno) {
	return whole(r, (*Reader).number)
}

// Signed reads a signed number.
func (r *Reader) Signed() (int64, api.Errno) {
	return whole(r, (*Reader).signed)
}

// Flag reads a flag.
func (r *Reader) Flag() (bool, api.Errno) {
	return whole(r, (*Reader).flag)
}

// Bytes reads bytes, of which there may be at most most.
func (r *Reader) Bytes(most int) ([]byte, api.Errno) {
	return whole(r, func(at *Reader) ([]byte, api.Errno) {
		return at.text(most)
	})
}

// Left answers how many bytes are not read yet.
func (r *Reader) Left() int {
	if r.none() {
		return 0
	}
	return len(r.left)
}

// End is OK where all bytes were read.
func (r *Reader) End() api.Errno {
	if r.none() {
		return api.ErrNil
	}
	if len(r.left) > 0 {
		return api.ErrBytes
	}
	return api.OK
}

// Take reads a list of at most most things, each of which one reads.
func Take[T any](r *Reader, most int, one func(*Reader) (T, api.Errno)) ([]T, api.Errno) {
	if one == nil {
		return nil, api.ErrNil
	}
	return whole(r, func(at *Reader) ([]T, api.Errno) {
		return things(at, most, one)
	})
}

// whole lets read go on with a reader of its own: only what was read to its end moves r.
func whole[T any](r *Reader, read func(*Reader) (T, api.Errno)) (T, api.Errno) {
	var nothing T
	if r.none() {
		return nothing, api.ErrNil
	}
	was := *r
	at := was
	got, e := read(&at)
	if e != api.OK {
		*r = was // a list's function may have gone on with r itself
		return nothing, e
	}
	*r = at
	return got, api.OK
}

func (r *Reader) none() bool {
	return r == nil || !r.open
}

func (r *Reader) number() (uint64, api.Errno) {
	var n uint64
digits:
	for i := 0; ; i++ {
		switch {
		case i == len(r.left): // it ends too soon
			break digits
		case i > 0 && r.left[i] == 0: // needless: the same number has a shorter form
			break digits
		case i == lastDigit && r.left[i] > lastMost: // more than 64 bits
			break digits
		}
		n |= uint64(r.left[i]&digitMask) << (digitBits * i)
		if r.left[i] < follows {
			r.left = r.left[i+1:]
			return n, api.OK
		}
	}
	return 0, api.ErrBytes
}

func (r *Reader) signed() (int64, api.Errno) {
	n, e := r.number()
	return int64(n>>1) ^ -int64(n&1), e
}

func (r *Reader) flag() (bool, api.Errno) {
	if len(r.left) == 0 || r.left[0] > 1 {
		return false, api.ErrBytes
	}
	is := r.left[0] == 1
	r.left = r.left[1:]
	return is, api.OK
}

// count reads how many there are of what follows. It is no promise that so many do follow: nobody makes room for them ahead.
func (r *Reader) count(most int) (uint64, api.Errno) {
	if most < 0 {
		return 0, api.ErrArg
	}
	n, e := r.number()
	if e != api.OK {
		return 0, e
	}
	if n > uint64(most) {
		return 0, api.ErrLong
	}
	return n, api.OK
}

func (r *Reader) text(most int) ([]byte, api.Errno) {
	n, e := r.count(most)
	if e != api.OK {
		return nil, e
	}
	if n > uint64(len(r.left)) {
		return nil, api.ErrBytes
	}
	b := slices.Clone(r.left[:n])
	r.left = r.left[n:]
	return b, api.OK
}

func things[T any](r *Reader, most int, one func(*Reader) (T, api.Errno)) ([]T, api.Errno) {
	n, e := r.count(most)
	if e != api.OK {
		return nil, e
	}
	var l []T
	for range n {
		t, e := one(r)
		if e != api.OK {
			return nil, e
		}
		l = append(l, t)
	}
	return l, api.OK
}
