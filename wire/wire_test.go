package wire_test

import (
	"bytes"
	"math"
	"testing"

	"hectare/api"
	"hectare/wire"
)

// greatest is the form of 2^64 - 1.
const greatest = "\xff\xff\xff\xff\xff\xff\xff\xff\xff\x01"

func same(t *testing.T, what string, got []byte, want string) {
	t.Helper()
	if string(got) != want {
		t.Errorf("%s: % x, want % x", what, got, want)
	}
}

// P1.1: the form of a number, at the edges of each length from one byte to ten.
func TestNumberForm(t *testing.T) {
	for _, x := range []struct {
		n    uint64
		want string
	}{
		{0, "\x00"}, {1, "\x01"}, {127, "\x7f"},
		{128, "\x80\x01"}, {300, "\xac\x02"}, {1<<14 - 1, "\xff\x7f"},
		{1 << 14, "\x80\x80\x01"}, {1<<21 - 1, "\xff\xff\x7f"},
		{1 << 21, "\x80\x80\x80\x01"}, {1<<28 - 1, "\xff\xff\xff\x7f"},
		{1 << 28, "\x80\x80\x80\x80\x01"}, {1<<35 - 1, "\xff\xff\xff\xff\x7f"},
		{1 << 35, "\x80\x80\x80\x80\x80\x01"}, {1<<42 - 1, "\xff\xff\xff\xff\xff\x7f"},
		{1 << 42, "\x80\x80\x80\x80\x80\x80\x01"}, {1<<49 - 1, "\xff\xff\xff\xff\xff\xff\x7f"},
		{1 << 49, "\x80\x80\x80\x80\x80\x80\x80\x01"}, {1<<56 - 1, "\xff\xff\xff\xff\xff\xff\xff\x7f"},
		{1 << 56, "\x80\x80\x80\x80\x80\x80\x80\x80\x01"}, {1<<63 - 1, "\xff\xff\xff\xff\xff\xff\xff\xff\x7f"},
		{1 << 63, "\x80\x80\x80\x80\x80\x80\x80\x80\x80\x01"}, {math.MaxUint64, greatest},
	} {
		same(t, "Number", wire.Number(x.n), x.want)
	}
}

// P1.1: signed numbers on both sides of 0, and the farthest ones.
func TestSignedForm(t *testing.T) {
	for _, x := range []struct {
		n    int64
		want string
	}{
		{0, "\x00"}, {-1, "\x01"}, {1, "\x02"}, {-2, "\x03"}, {2, "\x04"},
		{63, "\x7e"}, {-64, "\x7f"}, {64, "\x80\x01"}, {-65, "\x81\x01"}, {150, "\xac\x02"},
		{math.MaxInt64, "\xfe\xff\xff\xff\xff\xff\xff\xff\xff\x01"}, {math.MinInt64, greatest},
	} {
		same(t, "Signed", wire.Signed(x.n), x.want)
	}
}

// P1.1: flags and bytes.
func TestFlagAndBytesForm(t *testing.T) {
	same(t, "Flag(true)", wire.Flag(true), "\x01")
	same(t, "Flag(false)", wire.Flag(false), "\x00")
	same(t, "Bytes of nil", wire.Bytes(nil), "\x00")
	same(t, "Bytes of none", wire.Bytes([]byte{}), "\x00")
	same(t, "Bytes(ab)", wire.Bytes([]byte("ab")), "\x02ab")
	same(t, "Bytes(0 0)", wire.Bytes([]byte{0, 0}), "\x02\x00\x00")
	long := bytes.Repeat([]byte("x"), 300)
	same(t, "Bytes of 300", wire.Bytes(long), "\xac\x02"+string(long))
}

// P1.1: Join.
func TestJoin(t *testing.T) {
	same(t, "Join()", wire.Join(), "")
	same(t, "Join(nil, none)", wire.Join(nil, []byte{}), "")
	same(t, "Join(a)", wire.Join([]byte("a")), "a")
	same(t, "Join(ab, nil, c, ab)", wire.Join([]byte("ab"), nil, []byte("c"), []byte("ab")), "abcab")
}

// P1.1: Put, of nothing, of things, and without a function.
func TestPut(t *testing.T) {
	for _, x := range []struct {
		l    []int64
		want string
	}{
		{nil, "\x00"}, {[]int64{}, "\x00"}, {[]int64{0}, "\x01\x00"}, {[]int64{1, -1, 150}, "\x03\x02\x01\xac\x02"},
		{make([]int64, 128), "\x80\x01" + string(make([]byte, 128))},
	} {
		b, e := wire.Put(x.l, wire.Signed)
		same(t, "Put", b, x.want)
		if e != api.OK {
			t.Errorf("Put of %v: %v", x.l, e)
		}
	}
	for _, l := range [][]int64{nil, {1}} {
		if b, e := wire.Put(l, nil); e != api.ErrNil || len(b) != 0 {
			t.Errorf("Put of %v without a function: % x, %v", l, b, e)
		}
	}
	nothing := func(struct{}) []byte { return nil }
	if b, e := wire.Put(make([]struct{}, 3), nothing); e != api.OK || string(b) != "\x03" {
		t.Errorf("Put of things without bytes: % x, %v", b, e)
	}
}

// P1.1: Put asks for each thing once, in order, and takes what it is told as it is then.
func TestPutTakesEachFormAsItIs(t *testing.T) {
	var asked []byte
	shared := make([]byte, 1)
	b, e := wire.Put([]byte("cab"), func(c byte) []byte {
		asked = append(asked, c)
		shared[0] = c
		return shared
	})
	same(t, "asked", asked, "cab")
	same(t, "Put", b, "\x03cab")
	if e != api.OK {
		t.Errorf("Put: %v", e)
	}
}

// P1.1 (and the rules for all layers): answers are new memory, arguments stay as they are.
func TestFormsAreNewMemory(t *testing.T) {
	in := make([]byte, 2, 64)
	copy(in, "ab")
	for _, got := range [][]byte{wire.Bytes(in), wire.Join(in), wire.Join(in, nil), wire.Join(nil, in), wire.Join(in, []byte("c"))} {
		for i := range got {
			got[i] = '!'
		}
		same(t, "the argument", in, "ab")
		same(t, "what is behind the argument", in[:cap(in)][2:], string(make([]byte, 62)))
	}
	l := []int64{7}
	one, _ := wire.Put(l, wire.Signed)
	one[0], one[1] = 9, 9
	two, _ := wire.Put(l, wire.Signed)
	same(t, "Put once more", two, "\x01\x0e")
	wire.Flag(true)[0] = 9
	same(t, "Flag once more", wire.Flag(true), "\x01")
	wire.Number(5)[0] = 9
	same(t, "Number once more", wire.Number(5), "\x05")
}
