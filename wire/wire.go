// Package wire is layer 1: numbers, flags, texts and lists as bytes, each in one form alone, and readers of these forms. See shared/doc/01-wire.md.
package wire

import (
	"slices"

	"hectare/api"
)

// A byte of a number's form holds a digit of seven bits; its highest bit says that more digits follow.
const (
	digitBits = 7
	follows   = 1 << digitBits
	digitMask = follows - 1
)

// A number of 64 bits has at most ten digits; the tenth one has room for its highest bit alone.
const (
	lastDigit = 9
	lastMost  = 1
)

// Number answers the form of n.
func Number(n uint64) []byte {
	var form []byte
	for n >= follows {
		form = append(form, byte(n)|follows)
		n >>= digitBits
	}
	return append(form, byte(n))
}

// Signed answers the form of 2n, or, below 0, of -2n - 1: the sign goes lowest, so that numbers near 0 stay short on both sides.
func Signed(n int64) []byte {
	return Number(uint64(n)<<1 ^ uint64(n>>63))
}

// Flag answers the byte 1 for yes, 0 for no.
func Flag(is bool) []byte {
	if is {
		return []byte{1}
	}
	return []byte{0}
}

// Bytes answers how many bytes b has, and b behind that.
func Bytes(b []byte) []byte {
	return Join(Number(uint64(len(b))), b)
}

// Join answers all bytes of l, one behind the other.
func Join(l ...[]byte) []byte {
	return slices.Concat(l...)
}

// Put answers the form of a list: its length, and behind it what form says of each thing.
func Put[T any](l []T, form func(T) []byte) ([]byte, api.Errno) {
	if form == nil {
		return nil, api.ErrNil
	}
	b := Number(uint64(len(l)))
	for _, one := range l {
		b = append(b, form(one)...)
	}
	return b, api.OK
}
