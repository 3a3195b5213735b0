package bloom

import (
	"math/bits"

	"hectare/api"
	"hectare/crc"
)

// behind is the byte that stands behind a key in its second sum.
const behind = 1

// May tells whether the key may be there; only no is sure.
func May(filter, key []byte) bool {
	if Check(filter) != api.OK {
		return true
	}
	has := hasIn(filter)
	for _, bit := range places(key, len(filter)*byteBits) {
		if !has(bit) {
			return false
		}
	}
	return true
}

// Bits answers the key's bits in a filter of m bits.
func Bits(key []byte, m int) ([5]int, api.Errno) {
	if m < 1 || m > api.MaxBits {
		return [5]int{}, api.ErrArg
	}
	return places(key, m), api.OK
}

// Count answers how many bits are 1.
func Count(filter []byte) int {
	n := 0
	for _, b := range filter {
		n += bits.OnesCount8(b)
	}
	return n
}

// hasIn answers a function that tells whether a bit of the filter is 1.
func hasIn(filter []byte) func(bit int) bool {
	return func(bit int) bool {
		return filter[bit/byteBits]&mask(bit) != 0
	}
}

// places answers the key's bits among m, which are at least one: where it begins, and on by the same way four times, round at 2^32.
func places(key []byte, m int) [5]int {
	both := numbers(key)
	first, way := uint32(real(both)), uint32(imag(both))
	var l [5]int
	for i := range len(l) {
		l[i] = int((first + uint32(i)*way) % uint32(m))
	}
	return l
}

// numbers answers a key's two numbers: where its bits begin, and the way from each to the next one. A complex number's parts have room for all whole numbers up to 2^53, so none is rounded.
func numbers(key []byte) complex128 {
	sum := crc.Sum(key)
	way := crc.More(sum, []byte{behind}) | 1 // odd, so that a key's bits are five in any filter: its bits are a multiple of eight
	return complex(float64(sum), float64(way))
}
