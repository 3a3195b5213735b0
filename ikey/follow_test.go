package ikey_test

import (
	"bytes"
	"slices"
	"testing"

	"hectare/api"
	"hectare/ikey"
)

// P5.4, P0.10: entries are read as they were, one by one and as a list.
func TestThereAndBack(t *testing.T) {
	for _, e := range goods() {
		b, no := ikey.Bytes(e)
		got, wrong := ikey.Read(b)
		if !ikey.Same(got, e) || no != api.OK || wrong != api.OK {
			t.Errorf("Read of Bytes of %s: %s, %v, %v", tell(e), tell(got), no, wrong)
		}
	}
	for n := range uint32(200) {
		l := some(int(n), n)
		if n == 0 {
			l = goods()
		}
		b, no := ikey.List(l...)
		got, wrong := ikey.Lists(b)
		if !slices.EqualFunc(got, l, ikey.Same) || no != api.OK || wrong != api.OK {
			t.Errorf("Lists of List of %s: %s, %v, %v", tellAll(l), tellAll(got), no, wrong)
		}
	}
}

// writtenSo says that b is written again of what is read of it, or is refused; and tells how often it was read.
func writtenSo(t *testing.T, b []byte) int {
	t.Helper()
	was := slices.Clone(b)
	read := 0
	e, no := ikey.Read(b)
	if no == api.OK {
		read++
		if again, no := ikey.Bytes(e); !ikey.May(e) || !bytes.Equal(again, b) || no != api.OK {
			t.Fatalf("Read(% x): %s, which is written % x, %v", b, tell(e), again, no)
		}
	} else if no != api.ErrBytes || !zero(e) {
		t.Fatalf("Read(% x): %s, %v", b, tell(e), no)
	}
	l, no := ikey.Lists(b)
	if no == api.OK {
		read++
		if again, no := ikey.List(l...); !bytes.Equal(again, b) || no != api.OK {
			t.Fatalf("Lists(% x): %s, which is written % x, %v", b, tellAll(l), again, no)
		}
	} else if no != api.ErrBytes || len(l) > 0 {
		t.Fatalf("Lists(% x): %s, %v", b, tellAll(l), no)
	}
	if !bytes.Equal(b, was) {
		t.Fatalf("% x are changed", was)
	}
	return read
}

// P5.4, P0.9: whatever bytes there are, what is read is written so again.
func TestReadIsWritten(t *testing.T) {
	read := 0
	digits := []byte{0, 1, 2, 3, 4, 5, 0x80, 0x81, 0xFF}
	for n := range 9 * 9 * 9 * 9 * 9 * 9 { // all of up to six bytes of few values
		var b []byte
		for k := n; k > 0; k /= 9 {
			b = append(b, digits[k%9])
		}
		read += writtenSo(t, b)
	}
	if read < 1000 {
		t.Errorf("%d are read", read)
	}
	for _, b := range [][]byte{nil, {}, {0}} {
		writtenSo(t, b)
	}
	one, _ := ikey.Bytes(put("key", 300, "value"))
	many, _ := ikey.List(put("key", 300, "value"), del("key", 7), put("z", api.MaxNumber, ""))
	for _, b := range [][]byte{one, many} { // a byte changed, taken out, put in, anywhere
		for at := range b {
			for c := range 256 {
				other := slices.Clone(b)
				other[at] = byte(c)
				writtenSo(t, other)
				writtenSo(t, slices.Insert(slices.Clone(b), at, byte(c)))
			}
			writtenSo(t, slices.Delete(slices.Clone(b), at, at+1))
		}
	}
}

// P5.4: the order is one: of two that are not in one place just one is ahead, and who is ahead of one is ahead of all behind it.
func TestTheOrderIsOne(t *testing.T) {
	l := slices.Concat(goods(), bads(), some(30, 7))
	for _, a := range l {
		for _, b := range l {
			c := ikey.Compare(a, b)
			place := bytes.Equal(a.Key, b.Key) && a.Seq == b.Seq
			if c != -ikey.Compare(b, a) || c < -1 || c > 1 || (c == 0) != place {
				t.Fatalf("Compare(%s, %s): %d, turned round %d", tell(a), tell(b), c, ikey.Compare(b, a))
			}
			for _, d := range l {
				if c < 0 && ikey.Compare(b, d) <= 0 && ikey.Compare(a, d) >= 0 {
					t.Fatalf("%s is ahead of %s, that is ahead of %s, and the first is not ahead of the last", tell(a), tell(b), tell(d))
				}
			}
		}
	}
}

// P5.4: what is sorted rises just if no two are in one place; what rises is sorted already.
func TestSortedRises(t *testing.T) {
	for n := range uint32(500) {
		l := some(int(n%12), n)
		twice := false
		for i, a := range l {
			for _, b := range l[:i] {
				twice = twice || ikey.Compare(a, b) == 0
			}
		}
		sorted := ikey.Sort(l...)
		if ikey.Rising(sorted...) == twice {
			t.Fatalf("%s are sorted to %s, which rise: %v", tellAll(l), tellAll(sorted), twice)
		}
		if again := ikey.Sort(sorted...); !slices.EqualFunc(again, sorted, ikey.Same) {
			t.Fatalf("%s are sorted to %s", tellAll(sorted), tellAll(again))
		}
		if ikey.Rising(l...) && !slices.EqualFunc(l, sorted, ikey.Same) {
			t.Fatalf("%s rise, and are sorted to %s", tellAll(l), tellAll(sorted))
		}
	}
}
