package frame_test

import (
	"bytes"
	"math"
	"testing"

	"hectare/api"
	"hectare/frame"
)

// The chapter's examples.
func TestExamples(t *testing.T) {
	a := put(t, []byte("a"))
	if len(a) != 9 || string(a[:4]) != "\x00\x00\x00\x01" {
		t.Errorf("Put(a): % x", a)
	}
	if b, e := frame.Put(nil); b != nil || e != api.ErrArg {
		t.Errorf("Put(): % x, %v", b, e)
	}
	if frame.Size(1) != 9 || frame.Size(0) != 0 {
		t.Errorf("Size: %d, %d", frame.Size(1), frame.Size(0))
	}
	for _, x := range []struct {
		b       []byte
		n, size int
		odd     bool
	}{
		{bytes.Repeat(a, 2), 2, 18, false},
		{append(bytes.Repeat(a, 1), a[:5]...), 1, 9, false},
		{[]byte("\x00\x00\x00\x00four"), 0, 0, true},
		{append(bytes.Clone(a[:8]), 'b'), 0, 0, true},
	} {
		if n, size := frame.Whole(x.b); n != x.n || size != x.size || frame.Odd(x.b) != x.odd {
			t.Errorf("% x: Whole %d, %d, Odd %v", x.b, n, size, frame.Odd(x.b))
		}
	}
	if b, is := frame.One(a); string(b) != "a" || !is {
		t.Errorf("One(Put(a)): %q, %v", b, is)
	}
	if b, is := frame.One(bytes.Repeat(a, 2)); b != nil || is {
		t.Errorf("One(Put(a) twice): %q, %v", b, is)
	}
}

// P4.1: frames to the byte: the length and the sum have their highest byte first.
func TestFramesThatAreKnown(t *testing.T) {
	for payload, want := range map[string]string{
		"a":         "\x00\x00\x00\x01\xc5\x7d\xfe\x23a",
		"\x00":      "\x00\x00\x00\x01\x56\xd0\xee\x42\x00",
		"hectare":   "\x00\x00\x00\x07\x4a\x38\xf5\x6bhectare",
		"123456789": "\x00\x00\x00\x09\x69\x34\xcf\x6f123456789",
	} {
		if b := put(t, []byte(payload)); string(b) != want {
			t.Errorf("Put(%q): % x, want % x", payload, b, want)
		}
	}
}

// lengths are those of payloads that may be, at the edges of each byte of the length.
func lengths() []int {
	return []int{1, 2, 3, 7, 8, 9, 255, 256, 257, 65535, 65536, 65537, api.MaxPayload - 1, api.MaxPayload}
}

// P4.1: Put of payloads of any length that may be; Size of each.
func TestPut(t *testing.T) {
	for _, n := range lengths() {
		for _, payload := range [][]byte{some(n), make([]byte, n), bytes.Repeat([]byte{0xFF}, n)} {
			b := put(t, payload)
			if !bytes.Equal(b, spelt(payload)) {
				t.Errorf("Put of %d bytes: %s", n, head(b))
			}
			if frame.Size(n) != len(b) || len(b) != n+8 {
				t.Errorf("Size(%d): %d, want %d", n, frame.Size(n), len(b))
			}
		}
	}
}

// P4.1: no bytes, and too many.
func TestPutRefused(t *testing.T) {
	for _, x := range []struct {
		payload []byte
		why     api.Errno
	}{
		{nil, api.ErrArg}, {[]byte{}, api.ErrArg}, {some(9)[:0], api.ErrArg},
		{make([]byte, api.MaxPayload+1), api.ErrLong}, {some(api.MaxPayload + 2), api.ErrLong}, {make([]byte, 3*api.MaxPayload), api.ErrLong},
	} {
		if b, e := frame.Put(x.payload); b != nil || e != x.why {
			t.Errorf("Put of %d bytes: %s, %v, want %v", len(x.payload), head(b), e, x.why)
		}
	}
}

// P4.1: Size of what may not be.
func TestSizeOfNone(t *testing.T) {
	for _, n := range []int{0, -1, -8, -9, math.MinInt32, math.MinInt, math.MinInt + 8, api.MaxPayload + 1, 2 * api.MaxPayload, math.MaxInt32, math.MaxInt32 - 7, math.MaxInt - 7, math.MaxInt} {
		if got := frame.Size(n); got != 0 {
			t.Errorf("Size(%d): %d", n, got)
		}
	}
}

// P4.1: what is handed in stays the caller's, and what lies behind it; what is answered is new memory.
func TestPutIsNewMemory(t *testing.T) {
	room := []byte("0123456789abcdef")
	payload := room[2:8]
	b := put(t, payload)
	if string(room) != "0123456789abcdef" {
		t.Errorf("the caller's bytes are changed: %q", room)
	}
	clear(b)
	_ = append(b, "!!!!!!!!"...)
	if string(room) != "0123456789abcdef" {
		t.Errorf("the answer is the caller's memory: %q", room)
	}
	b = put(t, payload)
	clear(room)
	if !bytes.Equal(b, spelt([]byte("234567"))) {
		t.Errorf("the answer changes with the payload: % x", b)
	}
}
