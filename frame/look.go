package frame

import (
	"iter"
	"slices"

	"hectare/api"
	"hectare/crc"
)

// All goes over the whole frames that b begins with: where each begins, and its payload.
func All(b []byte) iter.Seq2[int, []byte] {
	b = slices.Clone(b) // the caller's may be changed ahead of any going over, or by the way
	return func(yield func(int, []byte) bool) {
		for at, payload := range each(b) {
			if !yield(at, slices.Clone(payload)) {
				return
			}
		}
	}
}

// Whole answers how many whole frames b begins with, and how many bytes they have.
func Whole(b []byte) (int, int) {
	frames, end := 0, 0
	for at, payload := range each(b) {
		frames++
		end = at + Size(len(payload))
	}
	return frames, end
}

// Odd tells whether something stands behind the whole frames that no crash leaves there.
func Odd(b []byte) bool {
	_, end := Whole(b)
	rest := b[end:]
	if len(rest) < api.FrameHead { // nothing, or a part of a head
		return false
	}
	size := claimed(rest)
	return size == 0 || size <= len(rest) // all of it is there, and it is not whole
}

// One answers the payload of b, if b is just one whole frame.
func One(b []byte) ([]byte, bool) {
	payload, is := wholeIn(b)(0)
	if !is || Size(len(payload)) < len(b) {
		return nil, false
	}
	return slices.Clone(payload), true
}

// each goes over the whole frames that b begins with, with payloads that are pieces of b.
func each(b []byte) iter.Seq2[int, []byte] {
	whole := wholeIn(b)
	return func(yield func(int, []byte) bool) {
	frames:
		for at := 0; ; {
			payload, is := whole(at)
			switch {
			case !is: // whatever stands behind it: nobody knows where that begins
				break frames
			case !yield(at, payload):
				break frames
			}
			at += Size(len(payload))
		}
	}
}

// wholeIn answers a function that tells of the frame at a place of b its payload, and whether it is whole.
func wholeIn(b []byte) func(at int) ([]byte, bool) {
	return func(at int) ([]byte, bool) {
		rest := b[at:]
		size := claimed(rest)
		if size == 0 || size > len(rest) {
			return nil, false
		}
		length, sum, payload := rest[:wordBytes], word(rest[wordBytes:api.FrameHead]), rest[api.FrameHead:size]
		return payload, crc.Sum(length, payload) == sum.number()
	}
}

// claimed answers how many bytes a frame at the beginning of b has, as its length says; 0, where there is no head, or a length that may not be.
func claimed(b []byte) int {
	if len(b) < api.FrameHead {
		return 0
	}
	return Size(int(word(b[:wordBytes]).number()))
}
