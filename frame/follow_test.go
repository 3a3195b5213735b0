package frame_test

import (
	"bytes"
	"slices"
	"testing"

	"hectare/api"
	"hectare/frame"
)

// begins says that b begins with so many of these frames, whatever is behind them, and no more.
func begins(t *testing.T, b []byte, payloads []string, frames int) {
	t.Helper()
	whole := row(payloads[:frames]...)
	if n, size := frame.Whole(b); n != frames || size != len(whole) {
		t.Fatalf("Whole of %s: %d, %d, want %d, %d", head(b), n, size, frames, len(whole))
	}
	i := 0
	for at, payload := range frame.All(b) {
		if i == frames || at != len(row(payloads[:i]...)) || string(payload) != payloads[i] {
			t.Fatalf("All of %s: the frame %d at %d, %q", head(b), i, at, payload)
		}
		i++
	}
	if i != frames {
		t.Fatalf("All of %s tells %d frames, want %d", head(b), i, frames)
	}
}

// texts are payloads, among them frames themselves, and bytes like heads.
func texts() []string {
	return []string{"a", string(row("a")), "\x00", string(make([]byte, 20)), string(bytes.Repeat([]byte{0xFF}, 9)), "\x00\x00\x00\x01\x00\x00\x00\x00", string(row("b", "c")), "xyz", string(some(60))}
}

// P4.3: of each first part of frames the whole ones are told, and nothing is odd.
func TestFirstParts(t *testing.T) {
	l := texts()
	b := row(l...)
	frames, end := 0, frame.Size(len(l[0]))
	for n := range len(b) + 1 {
		if n == end {
			frames++
			if frames < len(l) {
				end += frame.Size(len(l[frames]))
			}
		}
		begins(t, b[:n], l, frames)
		if frame.Odd(b[:n]) {
			t.Fatalf("the first %d of %d bytes are odd", n, len(b))
		}
		agrees(t, b[:n])
	}
	if frames != len(l) {
		t.Errorf("%d of %d frames were told", frames, len(l))
	}
}

// P4.3: a first part of the greatest frame.
func TestFirstPartsOfTheGreatest(t *testing.T) {
	l := []string{"a", string(some(api.MaxPayload))}
	b := row(l...)
	for _, n := range []int{9, 16, 17, 18, len(b) / 2, len(b) - 1} {
		begins(t, b[:n], l, 1)
		if frame.Odd(b[:n]) {
			t.Errorf("the first %d bytes are odd", n)
		}
	}
	begins(t, b, l, 2)
}

// P4.3: one bit turned of a payload, or of a sum: that frame is not whole, what stands ahead of it is told, and it is odd.
func TestOneBitTurned(t *testing.T) {
	l := texts()
	b := row(l...)
	for i, payload := range l {
		at := len(row(l[:i]...))
		for bit := 8 * (at + 4); bit < 8*(at+frame.Size(len(payload))); bit++ {
			b[bit/8] ^= 1 << (bit % 8)
			begins(t, b, l, i)
			if !frame.Odd(b) {
				t.Fatalf("bit %d of the frame %d was turned: it is not odd", bit-8*at, i)
			}
			if _, is := frame.One(b[at : at+frame.Size(len(payload))]); is {
				t.Fatalf("bit %d of the frame %d was turned: it is one", bit-8*at, i)
			}
			b[bit/8] ^= 1 << (bit % 8)
		}
	}
	begins(t, b, l, len(l))
}

// P4.2, P4.3: a bit of a length turned, a byte changed, taken out, or put in, anywhere; held against the model.
func TestChanges(t *testing.T) {
	l := texts()
	b := row(l...)
	for at := range b {
		for bit := range 8 {
			other := slices.Clone(b)
			other[at] ^= 1 << bit
			agrees(t, other)
			agrees(t, other[:len(b)-at/2])
		}
		for _, c := range []byte{0, 1, 8, 0x10, 0x7F, 0x80, 0xFF} {
			other := slices.Clone(b)
			other[at] = c
			agrees(t, other)
			agrees(t, slices.Insert(slices.Clone(b), at, c))
		}
		agrees(t, slices.Delete(slices.Clone(b), at, at+1))
		agrees(t, b[at:])
	}
}

// P4.2: any bytes; short ones, of few values, so that lengths that may be come up.
func TestAnyBytes(t *testing.T) {
	for n := range 3000 {
		b := some(n)[:n%40]
		for i := range b {
			if n%3 > 0 {
				b[i] %= byte(n%3 + 1)
			}
		}
		agrees(t, b)
		agrees(t, append(b, row("behind")...))
		agrees(t, append(row("ahead"), b...))
	}
}

// P4.2: many frames are gone over soon.
func TestManyFrames(t *testing.T) {
	b := bytes.Repeat(row("a"), 200000)
	if n, size := frame.Whole(b); n != 200000 || size != len(b) || frame.Odd(b) {
		t.Errorf("Whole: %d, %d, Odd: %v", n, size, frame.Odd(b))
	}
	n := 0
	for at, payload := range frame.All(b) {
		if at != 9*n || string(payload) != "a" {
			t.Fatalf("the frame %d: at %d, %q", n, at, payload)
		}
		n++
	}
	if n != 200000 {
		t.Errorf("All tells %d frames", n)
	}
	if _, is := frame.One(b); is {
		t.Error("many frames are one")
	}
}
