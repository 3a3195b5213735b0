package frame_test

import (
	"bytes"
	"encoding/binary"
	"fmt"
	"hash/crc32"
	"math"
	"math/bits"
	"slices"
	"testing"

	"hectare/api"
	"hectare/frame"
)

// P4.2: frames one behind the other, of all lengths: where each begins, and its payload.
func TestAll(t *testing.T) {
	var b []byte
	var at []int
	var payloads [][]byte
	for _, n := range append(lengths(), 1, 1, 300) {
		at, payloads = append(at, len(b)), append(payloads, some(n))
		b = append(b, put(t, some(n))...)
	}
	i := 0
	for where, payload := range frame.All(b) {
		if i == len(at) || where != at[i] || !bytes.Equal(payload, payloads[i]) {
			t.Fatalf("the frame %d of %d: at %d, %s", i, len(at), where, head(payload))
		}
		i++
	}
	if n, size := frame.Whole(b); i != len(at) || n != len(at) || size != len(b) || frame.Odd(b) {
		t.Errorf("All tells %d, Whole %d, %d, Odd %v, of %d frames of %d bytes", i, n, size, frame.Odd(b), len(at), len(b))
	}
}

// told is what All goes over, up to so many frames, a text each.
func told(b []byte, most int) []string {
	var l []string
	for at, payload := range frame.All(b) {
		if len(l) == most {
			break
		}
		l = append(l, fmt.Sprintf("%d %s", at, payload))
	}
	return l
}

// P4.2: All may be left at any time, and gone through again, from the first frame on.
func TestAllIsLeftAndGoneThroughAgain(t *testing.T) {
	b := append(row("xyz", "u", "vw"), "rest"...)
	whole := []string{"0 xyz", "11 u", "20 vw"}
	for most := range 5 {
		if l := told(b, most); !slices.Equal(l, whole[:min(most, 3)]) {
			t.Errorf("the first %d: %q", most, l)
		}
	}
	all := frame.All(b)
	for range 3 {
		var l []string
		for at, payload := range all {
			for inner := range all { // one within another one
				if inner > 0 {
					break
				}
			}
			l = append(l, fmt.Sprintf("%d %s", at, payload))
		}
		if !slices.Equal(l, whole) {
			t.Errorf("All: %q", l)
		}
	}
}

// P4.2: frames are told as they are when it begins, whatever becomes of the bytes by the way.
func TestAllAsItBegins(t *testing.T) {
	b := row("xyz", "u", "vw")
	var l []string
	for at, payload := range frame.All(b) {
		clear(b)
		copy(b[11:], row("!!"))
		l = append(l, fmt.Sprintf("%d %s", at, payload))
	}
	if !slices.Equal(l, []string{"0 xyz", "11 u", "20 vw"}) {
		t.Errorf("All of bytes that are changed by the way: %q", l)
	}
}

// P4.2: the bytes that are handed in are not kept, nor shared by what is told.
func TestLooksAreNewMemory(t *testing.T) {
	b := row("xyz", "u", "vw")
	was := slices.Clone(b)
	all := frame.All(b)
	for range 2 {
		var l []string
		for _, payload := range all {
			l = append(l, string(payload))
			clear(payload)
			_ = append(payload, "!!!!!!!!!!!!"...)
		}
		if !slices.Equal(l, []string{"xyz", "u", "vw"}) {
			t.Errorf("All: %q", l)
		}
		if !bytes.Equal(b[:11], was[:11]) {
			t.Errorf("what All tells is the caller's memory: %s", head(b))
		}
		clear(b)
		b = slices.Clone(was)
	}
	first := slices.Clone(was)[:11]
	payload, is := frame.One(first)
	if !is {
		t.Fatal("One of one frame is none")
	}
	clear(payload)
	if !bytes.Equal(first, was[:11]) {
		t.Errorf("what One answers is the caller's memory: %s", head(first))
	}
	payload, _ = frame.One(first)
	clear(first)
	if string(payload) != "xyz" {
		t.Errorf("what One answers changes with the frame: %q", payload)
	}
}

// P4.2: nothing is said by no bytes; they are not odd.
func TestLooksOfNothing(t *testing.T) {
	for _, b := range [][]byte{nil, {}, row("a")[:0]} {
		n, size := frame.Whole(b)
		payload, is := frame.One(b)
		if told(b, 9) != nil || n != 0 || size != 0 || frame.Odd(b) || payload != nil || is {
			t.Errorf("of nothing: %q, %d, %d, %v, %q, %v", told(b, 9), n, size, frame.Odd(b), payload, is)
		}
	}
}

// rests are bytes with no whole frame at their beginning, and whether they are odd.
func rests() map[string]bool {
	l := map[string]bool{}
	for n := 1; n < 8; n++ { // fewer than a head, whatever they are
		l[string(make([]byte, n))] = false
		l[string(bytes.Repeat([]byte{0xFF}, n))] = false
		l[string(row("some text")[:n])] = false
	}
	word := func(n uint32) string { return string(binary.BigEndian.AppendUint32(nil, n)) }
	for _, n := range []uint32{0, api.MaxPayload + 1, 2 * api.MaxPayload, 1 << 24, math.MaxInt32, math.MaxInt32 - 7, 1 << 31, 1<<31 + 1, math.MaxUint32 - 7, math.MaxUint32} { // a length that may not be, whatever follows
		for _, behind := range []string{"", "x", string(some(50)), string(row("some text"))} {
			l[word(n)+"sum?"+behind] = true
		}
	}
	l[string(spelt(nil))] = true // its sum is right
	l[string(spelt(nil))+"x"] = true
	l[string(spelt(some(api.MaxPayload+1)))] = true
	for _, n := range []int{1, 2, 9, 300, api.MaxPayload} {
		whole := spelt(some(n))
		for _, left := range []int{8, 9, 7 + n/2, 6 + n, 7 + n} {
			if left >= 8 && left < len(whole) {
				l[string(whole[:left])] = false
			}
		}
		wrong := word(uint32(n)) + "sum?" + string(some(n))
		l[wrong[:7+n]] = false
		l[wrong] = true
		l[wrong+"x"] = true
		l[wrong+string(row("some text"))] = true
	}
	return l
}

// P4.2: sums that look like right ones: of the payload alone, of the length alone, of both turned round, with its bytes or its bits turned.
func TestWrongSums(t *testing.T) {
	for _, n := range []int{1, 2, 9, 300, api.MaxPayload} {
		b := put(t, some(n))
		right := binary.BigEndian.Uint32(b[4:])
		for what, sum := range map[string]uint32{
			"none":                 0,
			"of the payload alone": crc32.Checksum(b[8:], castagnoli()),
			"of the length alone":  crc32.Checksum(b[:4], castagnoli()),
			"of both turned round": crc32.Checksum(slices.Concat(b[8:], b[:4]), castagnoli()),
			"of another kind":      crc32.ChecksumIEEE(slices.Concat(b[:4], b[8:])),
			"the lowest first":     bits.ReverseBytes32(right),
			"turned over":          ^right,
			"one more":             right + 1,
		} {
			other := slices.Clone(b)
			binary.BigEndian.PutUint32(other[4:], sum)
			frames, size := frame.Whole(other)
			if _, is := frame.One(other); is || frames != 0 || size != 0 || !frame.Odd(other) {
				t.Errorf("a frame around %d bytes with a wrong sum (%s): One %v, Whole %d, %d, Odd %v", n, what, is, frames, size, frame.Odd(other))
			}
		}
	}
}

// P4.2: what stands behind whole frames is not told, whatever it is; is it odd?
func TestRests(t *testing.T) {
	for rest, odd := range rests() {
		for _, ahead := range []string{"", string(row("a")), string(row("a", "some text", string(some(700))))} {
			b := []byte(ahead + rest)
			if frame.Odd(b) != odd {
				t.Errorf("Odd of a rest of %s behind %d bytes: %v", head([]byte(rest)), len(ahead), !odd)
			}
			if n, size := frame.Whole(b); n != len(said(b).at) || size != len(ahead) {
				t.Errorf("Whole of a rest of %s behind %d bytes: %d, %d", head([]byte(rest)), len(ahead), n, size)
			}
			agrees(t, b)
		}
	}
}

// P4.2: One is just one whole frame.
func TestOne(t *testing.T) {
	for _, n := range lengths() {
		b := put(t, some(n))
		if payload, is := frame.One(b); !is || !bytes.Equal(payload, some(n)) {
			t.Errorf("One of a frame around %d bytes: %s, %v", n, head(payload), is)
		}
		other := slices.Clone(b)
		other[len(b)-1] ^= 4
		for what, none := range map[string][]byte{
			"a byte fewer":        b[:len(b)-1],
			"a byte more":         append(slices.Clone(b), 0),
			"a head more":         append(slices.Clone(b), b[:8]...),
			"two":                 append(slices.Clone(b), b...),
			"a byte ahead":        append([]byte{0}, b...),
			"another last byte":   other,
			"the payload alone":   b[8:],
			"the head alone":      b[:8],
			"without its sum":     append(slices.Clone(b[:4]), b[8:]...),
			"its length too high": claiming(uint32(n)+1, some(n)),
			"its length too low":  claiming(uint32(n)-1, some(n)),
		} {
			if payload, is := frame.One(none); is || payload != nil {
				t.Errorf("One of a frame around %d bytes, %s: %s, %v", n, what, head(payload), is)
			}
		}
	}
}
