package wire_test

import (
	"bytes"
	"slices"
	"testing"

	"hectare/api"
	"hectare/wire"
)

// numbers are those in the neighbourhood of each power of 2, and all small ones.
func numbers() []uint64 {
	var l []uint64
	for n := range uint64(20000) {
		l = append(l, n)
	}
	for k := range 64 {
		p := uint64(1) << k
		l = append(l, p-1, p, p+1, -p, ^p)
	}
	return l
}

// readBack reads form with any bytes behind it, and says that just the form was taken; each first part of it is refused.
func readBack[T comparable](t *testing.T, form []byte, want T, read func(*wire.Reader) (T, api.Errno)) {
	t.Helper()
	for _, tail := range []string{"", "\x00", "\x01", "\x80\xff"} {
		r := wire.Open(append(slices.Clone(form), tail...))
		if got, e := read(r); got != want || e != api.OK || r.Left() != len(tail) {
			t.Errorf("of % x (and % x behind it): %v, %v, left %d; want %v", form, tail, got, e, r.Left(), want)
		}
	}
	for n := range form {
		if got, e := read(wire.Open(form[:n])); e != api.ErrBytes {
			t.Errorf("of % x, a first part of % x: %v, %v", form[:n], form, got, e)
		}
	}
}

// P1.5, P0.10: what was written is read as it was; no form begins another one.
func TestWrittenIsRead(t *testing.T) {
	for _, n := range numbers() {
		readBack(t, wire.Number(n), n, (*wire.Reader).Number)
		readBack(t, wire.Signed(int64(n)), int64(n), (*wire.Reader).Signed)
	}
	for _, is := range []bool{false, true} {
		readBack(t, wire.Flag(is), is, (*wire.Reader).Flag)
	}
	text := func(r *wire.Reader) (string, api.Errno) {
		b, e := r.Bytes(1000)
		return string(b), e
	}
	for n := range 200 {
		s := bytes.Repeat([]byte{byte(n)}, n)
		readBack(t, wire.Bytes(s), string(s), text)
	}
}

// P1.5, P0.10: lists, of any things.
func TestWrittenListIsRead(t *testing.T) {
	for n := range 200 {
		l := slices.Repeat(numbers()[20000:], 2)[:n]
		b, _ := wire.Put(l, wire.Number)
		r := wire.Open(b)
		got, e := wire.Take(r, n, (*wire.Reader).Number)
		if !slices.Equal(got, l) || e != api.OK || r.End() != api.OK {
			t.Errorf("a list of %d numbers: %v, %v", n, got, e)
		}
		for i := range b {
			if got, e := wire.Take(wire.Open(b[:i]), n, (*wire.Reader).Number); e != api.ErrBytes {
				t.Fatalf("%d bytes of a list of %d numbers: %v, %v", i, n, got, e)
			}
		}
	}
	words := [][]byte{[]byte("a"), nil, []byte("bcd"), bytes.Repeat([]byte{0xff}, 300)}
	b, _ := wire.Put(words, wire.Bytes)
	r := wire.Open(b)
	got, e := wire.Take(r, 4, func(r *wire.Reader) ([]byte, api.Errno) { return r.Bytes(300) })
	if !slices.EqualFunc(got, words, bytes.Equal) || e != api.OK || r.End() != api.OK {
		t.Errorf("a list of words: % x, %v", got, e)
	}
}

// writtenBack reads from b; what is read is written as it stood there, what is refused leaves the reader where it was.
func writtenBack[T any](t *testing.T, b []byte, read func(*wire.Reader) (T, api.Errno), form func(T) []byte) {
	t.Helper()
	r := wire.Open(b)
	got, e := read(r)
	taken := b[:len(b)-r.Left()]
	switch {
	case e == api.OK && !bytes.Equal(form(got), taken):
		t.Errorf("of % x: took % x, which is written % x", b, taken, form(got))
	case e != api.OK && (e != api.ErrBytes || len(taken) > 0):
		t.Errorf("of % x: %v, took % x", b, e, taken)
	}
}

// eachWay reads b as each kind of form.
func eachWay(t *testing.T, b []byte) {
	t.Helper()
	most := 1 << 62
	writtenBack(t, b, (*wire.Reader).Number, wire.Number)
	writtenBack(t, b, (*wire.Reader).Signed, wire.Signed)
	writtenBack(t, b, (*wire.Reader).Flag, wire.Flag)
	text := func(r *wire.Reader) ([]byte, api.Errno) { return r.Bytes(most) }
	list := func(r *wire.Reader) ([]int64, api.Errno) { return wire.Take(r, most, (*wire.Reader).Signed) }
	if n, e := wire.Open(b).Number(); e != api.OK || n <= uint64(most) {
		writtenBack(t, b, text, wire.Bytes)
		writtenBack(t, b, list, func(l []int64) []byte {
			b, _ := wire.Put(l, wire.Signed)
			return b
		})
	}
}

// P1.5, P0.9: whatever bytes there are, they are those that are written of what was read, or are refused.
func TestReadIsWritten(t *testing.T) {
	eachWay(t, nil)
	for a := range 256 {
		eachWay(t, []byte{byte(a)})
		for b := range 256 {
			eachWay(t, []byte{byte(a), byte(b)})
		}
	}
	for n := range 5 * 5 * 5 * 5 * 5 * 5 { // bytes at the edges of a digit, up to six and behind nine others
		var b []byte
		for k := n; k > 0; k /= 5 {
			b = append(b, "\x00\x01\x7f\x80\xff"[k%5])
		}
		eachWay(t, b)
		eachWay(t, append(bytes.Repeat([]byte{0x80}, 8), b...))
	}
	x := uint32(1)
	for range 20000 { // any bytes, by a rule
		b := make([]byte, x>>8%24)
		for i := range b {
			x = x*1664525 + 1013904223
			b[i] = byte(x >> 24)
		}
		x = x*1664525 + 1013904223
		eachWay(t, b)
	}
}
