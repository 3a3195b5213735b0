package wire_test

import (
	"math"
	"slices"
	"strings"
	"testing"

	"hectare/api"
	"hectare/wire"
)

type number = func(*wire.Reader) (uint64, api.Errno)

// stays says that a reader which was refused still has all of s ahead.
func stays(t *testing.T, r *wire.Reader, s string) {
	t.Helper()
	if r.Left() != len(s) {
		t.Errorf("behind an error %d bytes are left of % x", r.Left(), s)
	}
}

// next reads a number to tell where a reader stands.
func next(t *testing.T, r *wire.Reader, want uint64, left int) {
	t.Helper()
	if n, e := r.Number(); n != want || e != api.OK || r.Left() != left {
		t.Errorf("the next number is %d, %v, and %d are left; want %d, %d", n, e, r.Left(), want, left)
	}
}

// P1.2: Open, Left, End.
func TestOpenLeftEnd(t *testing.T) {
	for _, b := range [][]byte{nil, {}} {
		r := wire.Open(b)
		if r == nil || r.Left() != 0 || r.End() != api.OK {
			t.Errorf("a reader of no bytes: %v, %v", r.Left(), r.End())
		}
		if _, e := r.Number(); e != api.ErrBytes {
			t.Errorf("a number of no bytes: %v", e)
		}
	}
	r := wire.Open([]byte{5, 0x80, 1, 7})
	if r.Left() != 4 || r.End() != api.ErrBytes {
		t.Errorf("at the beginning: %d, %v", r.Left(), r.End())
	}
	next(t, r, 5, 3)
	next(t, r, 128, 1)
	if r.End() != api.ErrBytes {
		t.Errorf("ahead of the last one: %v", r.End())
	}
	next(t, r, 7, 0)
	if r.End() != api.OK {
		t.Errorf("behind all: %v", r.End())
	}
}

// P1.2: the bytes are read as they were when they were opened, and stay the caller's.
func TestOpenKeepsBytesAsTheyAre(t *testing.T) {
	b := []byte{2, 'a', 'b', 9}
	r := wire.Open(b)
	copy(b, "\xff\xff\xff\xff")
	got, e := r.Bytes(2)
	if string(got) != "ab" || e != api.OK {
		t.Errorf("Bytes: %q, %v", got, e)
	}
	got[0], got[1] = '!', '!'
	_ = append(got, '!', '!')
	next(t, r, 9, 0)
	if string(b) != "\xff\xff\xff\xff" {
		t.Errorf("the caller's bytes are % x", b)
	}
	one, two := wire.Open([]byte{1, 2}), wire.Open([]byte{1, 2})
	next(t, one, 1, 1)
	next(t, two, 1, 1)
}

// P1.2, P1.3, P1.4: nil readers, zero ones, nil functions; ErrNil is told ahead of all.
func TestNil(t *testing.T) {
	for _, r := range []*wire.Reader{nil, {}, new(wire.Reader)} {
		if r.Left() != 0 || r.End() != api.ErrNil {
			t.Errorf("of nil: %d, %v", r.Left(), r.End())
		}
		if n, e := r.Number(); n != 0 || e != api.ErrNil {
			t.Errorf("Number of nil: %d, %v", n, e)
		}
		if n, e := r.Signed(); n != 0 || e != api.ErrNil {
			t.Errorf("Signed of nil: %d, %v", n, e)
		}
		if is, e := r.Flag(); is || e != api.ErrNil {
			t.Errorf("Flag of nil: %v, %v", is, e)
		}
		for _, most := range []int{-1, 0, 1} {
			if b, e := r.Bytes(most); len(b) != 0 || e != api.ErrNil {
				t.Errorf("Bytes(%d) of nil: % x, %v", most, b, e)
			}
			for _, one := range []number{nil, (*wire.Reader).Number} {
				if l, e := wire.Take(r, most, one); len(l) != 0 || e != api.ErrNil {
					t.Errorf("Take(%d) of nil: %v, %v", most, l, e)
				}
			}
		}
	}
	for _, most := range []int{-1, 0, 1} {
		r := wire.Open([]byte{1, 7})
		if l, e := wire.Take(r, most, number(nil)); len(l) != 0 || e != api.ErrNil {
			t.Errorf("Take(%d) without a function: %v, %v", most, l, e)
		}
		stays(t, r, "\x01\x07")
	}
}

// wrongNumbers are bytes that no number's form begins.
func wrongNumbers() []string {
	l := []string{"", "\x80", "\x80\x00", "\xff\x00", "\x80\x80\x00\x01", "\xff\xff\xff\xff\xff\xff\xff\xff\xff\x02",
		"\xff\xff\xff\xff\xff\xff\xff\xff\xff\x00", "\x80\x80\x80\x80\x80\x80\x80\x80\x80\x03", "\xff\xff\xff\xff\xff\xff\xff\xff\xff\x7f",
		"\xff\xff\xff\xff\xff\xff\xff\xff\xff\x81\x01", "\x80\x80\x80\x80\x80\x80\x80\x80\x80\x80\x01", "\x80\x80\x80\x80\x80\x80\x80\x80\x80\x80\x00"}
	for n := range 12 { // too short, needless, too great
		l = append(l, strings.Repeat("\xff", n), strings.Repeat("\x80", n), strings.Repeat("\x80", n+1)+"\x00")
	}
	return l
}

// P1.3: numbers that are none.
func TestWrongNumbers(t *testing.T) {
	for _, s := range wrongNumbers() {
		r := wire.Open([]byte(s))
		if n, e := r.Number(); n != 0 || e != api.ErrBytes {
			t.Errorf("Number of % x: %d, %v", s, n, e)
		}
		stays(t, r, s)
		if n, e := r.Signed(); n != 0 || e != api.ErrBytes {
			t.Errorf("Signed of % x: %d, %v", s, n, e)
		}
		stays(t, r, s)
		if b, e := r.Bytes(math.MaxInt); len(b) != 0 || e != api.ErrBytes {
			t.Errorf("Bytes of % x: % x, %v", s, b, e)
		}
		stays(t, r, s)
		if l, e := wire.Take(r, math.MaxInt, (*wire.Reader).Number); len(l) != 0 || e != api.ErrBytes {
			t.Errorf("Take of % x: %v, %v", s, l, e)
		}
		stays(t, r, s)
	}
}

// P1.3: what stands there is read, and the reader goes just behind it.
func TestReadsInARow(t *testing.T) {
	r := wire.Open([]byte("\xac\x02" + greatest + "\x01\x02" + greatest + "\x01\x00\x02ab\x00\x05"))
	next(t, r, 300, 29)
	next(t, r, math.MaxUint64, 19)
	for i, want := range []int64{-1, 1, math.MinInt64} {
		if n, e := r.Signed(); n != want || e != api.OK {
			t.Errorf("Signed %d: %d, %v", i, n, e)
		}
	}
	for _, want := range []bool{true, false} {
		if is, e := r.Flag(); is != want || e != api.OK {
			t.Errorf("Flag: %v, %v", is, e)
		}
	}
	for _, want := range []string{"ab", ""} {
		if b, e := r.Bytes(len(want)); string(b) != want || e != api.OK {
			t.Errorf("Bytes: %q, %v", b, e)
		}
	}
	next(t, r, 5, 0)
	if r.End() != api.OK {
		t.Errorf("End: %v", r.End())
	}
}

// P1.3: flags that are neither, or not there.
func TestWrongFlags(t *testing.T) {
	for _, s := range []string{"", "\x02", "\x02\x01", "\x80\x01", "\x81", "\xff"} {
		r := wire.Open([]byte(s))
		if is, e := r.Flag(); is || e != api.ErrBytes || r.Left() != len(s) {
			t.Errorf("Flag of % x: %v, %v, left %d", s, is, e, r.Left())
		}
	}
}

// P1.3: Bytes, its bound, and which of its errors comes first.
func TestBytesBounds(t *testing.T) {
	for _, x := range []struct {
		s    string
		most int
		want string
		e    api.Errno
		left int
	}{
		{"\x02ab", 1, "", api.ErrLong, 3}, {"\x02a", 2, "", api.ErrBytes, 2}, {"\x02ab", 2, "ab", api.OK, 0},
		{"\x02abc", 9, "ab", api.OK, 1}, {"\x00", 0, "", api.OK, 0}, {"\x00a", 0, "", api.OK, 1}, {"\x01a", 0, "", api.ErrLong, 2},
		{"\x01a", -1, "", api.ErrArg, 2}, {"\x80", -1, "", api.ErrArg, 1}, {"", math.MinInt, "", api.ErrArg, 0}, {"", 0, "", api.ErrBytes, 0},
		{"\x02a", 1, "", api.ErrLong, 2}, {greatest, math.MaxInt, "", api.ErrLong, 10}, {greatest + "a", 0, "", api.ErrLong, 11},
		{"\xff\xff\xff\xff\xff\xff\xff\xff\x7fa", math.MaxInt, "", api.ErrBytes, 10}, {"\x81\x00a", 9, "", api.ErrBytes, 3},
	} {
		r := wire.Open([]byte(x.s))
		b, e := r.Bytes(x.most)
		if string(b) != x.want || e != x.e || r.Left() != x.left {
			t.Errorf("Bytes(%d) of % x: %q, %v, left %d", x.most, x.s, b, e, r.Left())
		}
	}
}

// P1.4: lists, their bound, and which of the errors comes first.
func TestTakeBounds(t *testing.T) {
	for _, x := range []struct {
		s    string
		most int
		want []uint64
		e    api.Errno
		left int
	}{
		{"\x02\x05\x80\x01", 9, []uint64{5, 128}, api.OK, 0}, {"\x02\x05\x80\x01\x07", 2, []uint64{5, 128}, api.OK, 1},
		{"\x02\x05\x80\x01", 1, nil, api.ErrLong, 4}, {"\x00", 0, nil, api.OK, 0}, {"\x00\x07", 9, nil, api.OK, 1}, {"\x01\x07", 0, nil, api.ErrLong, 2},
		{"\x01\x07", -1, nil, api.ErrArg, 2}, {"\x80", -1, nil, api.ErrArg, 1}, {"", math.MinInt, nil, api.ErrArg, 0}, {"", 0, nil, api.ErrBytes, 0},
		{"\x02\x05", 2, nil, api.ErrBytes, 2}, {"\x02\x05", 1, nil, api.ErrLong, 2}, {"\x02\x05\x80\x00", 9, nil, api.ErrBytes, 4}, {"\x82\x00\x05\x06", 9, nil, api.ErrBytes, 4},
		{greatest, math.MaxInt, nil, api.ErrLong, 10}, {"\xff\xff\xff\xff\xff\xff\xff\xff\x7f\x05", math.MaxInt, nil, api.ErrBytes, 10},
	} {
		r := wire.Open([]byte(x.s))
		l, e := wire.Take(r, x.most, (*wire.Reader).Number)
		if !slices.Equal(l, x.want) || e != x.e || r.Left() != x.left {
			t.Errorf("Take(%d) of % x: %v, %v, left %d", x.most, x.s, l, e, r.Left())
		}
	}
}

// P1.4: the function's first error ends the list, and is told, whichever it is; the reader stays.
func TestTakeEndsAtTheFirstError(t *testing.T) {
	for _, want := range []api.Errno{api.ErrState, api.ErrNil, api.ErrOld, -1, 99} {
		r := wire.Open([]byte{4, 1, 2, 3, 4, 5})
		calls := 0
		l, e := wire.Take(r, 4, func(r *wire.Reader) (uint64, api.Errno) {
			calls++
			n, _ := r.Number()
			if n == 3 {
				return n, want
			}
			if n > 3 {
				return n, api.ErrFull
			}
			return n, api.OK
		})
		if len(l) != 0 || e != want || calls != 3 {
			t.Errorf("Take: %v, %v, behind %d calls, want %v", l, e, calls, want)
		}
		next(t, r, 4, 5)
		next(t, r, 1, 4)
	}
	for _, s := range []string{"\x80", "\x03", "\x00"} { // no call ahead of an error, nor of a list of nothing
		wire.Take(wire.Open([]byte(s)), 2, func(*wire.Reader) (int, api.Errno) {
			t.Errorf("of % x the function is called", s)
			return 0, api.OK
		})
	}
}

// P1.4: the function's reader stands where this one does, behind the length; it goes on from thing to thing.
func TestTakeHandsAReaderOn(t *testing.T) {
	var left []int
	r := wire.Open([]byte{3, 7, 8, 9, 1})
	l, e := wire.Take(r, 3, func(r *wire.Reader) (int, api.Errno) {
		left = append(left, r.Left())
		_, e := r.Number()
		return r.Left(), e
	})
	if e != api.OK || !slices.Equal(left, []int{4, 3, 2}) || !slices.Equal(l, []int{3, 2, 1}) {
		t.Errorf("Take: %v, %v, left %v", l, e, left)
	}
	next(t, r, 1, 0)
	calls := 0
	none, e := wire.Take(wire.Open([]byte{0x80, 1}), 128, func(*wire.Reader) (struct{}, api.Errno) {
		calls++
		return struct{}{}, api.OK
	})
	if len(none) != 128 || calls != 128 || e != api.OK {
		t.Errorf("things without bytes: %d, %d calls, %v", len(none), calls, e)
	}
}

// P1.4: also where the function goes on with the reader that Take was handed, that one stays beside an error.
func TestTakeStaysThoughItsReaderWasUsed(t *testing.T) {
	r := wire.Open([]byte{2, 7, 8, 9})
	_, e := wire.Take(r, 2, func(*wire.Reader) (uint64, api.Errno) {
		r.Number()
		return 0, api.ErrState
	})
	if e != api.ErrState {
		t.Errorf("Take: %v", e)
	}
	next(t, r, 2, 3)
}

// P1.4: the function's reader is one of its own; what becomes of it later on does not move this one.
func TestTakeGoesOnApart(t *testing.T) {
	var kept *wire.Reader
	r := wire.Open([]byte{1, 7, 8, 9})
	if _, e := wire.Take(r, 1, func(r *wire.Reader) (uint64, api.Errno) {
		kept = r
		return r.Number()
	}); e != api.OK {
		t.Errorf("Take: %v", e)
	}
	next(t, kept, 8, 1)
	next(t, r, 8, 1)
}

// P1.4: lists in lists, and what is answered is new memory.
func TestTakeNested(t *testing.T) {
	word := func(r *wire.Reader) ([]byte, api.Errno) { return r.Bytes(3) }
	words := func(r *wire.Reader) ([][]byte, api.Errno) { return wire.Take(r, 2, word) }
	b := []byte("\x03\x02\x01a\x02bc\x00\x01\x00\x07")
	r := wire.Open(b)
	l, e := wire.Take(r, 3, words)
	if e != api.OK || len(l) != 3 || len(l[0]) != 2 || len(l[1]) != 0 || len(l[2]) != 1 || r.Left() != 1 {
		t.Fatalf("Take: %q, %v, left %d", l, e, r.Left())
	}
	_ = append(l[0][0], '!', '!', '!')
	if string(l[0][1]) != "bc" || string(b) != "\x03\x02\x01a\x02bc\x00\x01\x00\x07" {
		t.Errorf("what is appended to an answer writes into another one: %q, % x", l, b)
	}
	r = wire.Open([]byte("\x02\x01\x01a\x01\x04bcde"))
	if l, e := wire.Take(r, 2, words); len(l) != 0 || e != api.ErrLong || r.Left() != 10 {
		t.Errorf("a word that is too long: %q, %v, left %d", l, e, r.Left())
	}
}
