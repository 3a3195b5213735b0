package crc_test

import (
	"math/bits"
	"slices"
	"testing"

	"hectare/crc"
)

// longest is how long texts are of which P2.4 says that sums differ.
const longest = 1 << 16

// flipped answers b with these bits turned over.
func flipped(b []byte, at ...int) []byte {
	b = slices.Clone(b)
	for _, bit := range at {
		b[bit/8] ^= 1 << (bit % 8)
	}
	return b
}

// P2.4: More of Sum is Sum of both; Join of two sums is the sum of both; Zeros is More of bytes 0; three pieces join either way.
func TestSumsAgree(t *testing.T) {
	l := texts()
	for i, a := range l {
		b, c := l[(i*7+3)%len(l)], l[(i*5+1)%len(l)]
		both := crc.Sum(a, b)
		if got := crc.More(crc.Sum(a), b); got != both {
			t.Errorf("More of Sum of %d and %d bytes: %d, want %d", len(a), len(b), got, both)
		}
		if got := crc.Join(crc.Sum(a), crc.Sum(b), len(b)); got != both {
			t.Errorf("Join of %d and %d bytes: %d, want %d", len(a), len(b), got, both)
		}
		if got, want := crc.Zeros(crc.Sum(a), len(b)), crc.More(crc.Sum(a), make([]byte, len(b))); got != want {
			t.Errorf("Zeros behind %d bytes: %d, want %d", len(a), got, want)
		}
		one := crc.Join(both, crc.Sum(c), len(c))
		two := crc.Join(crc.Sum(a), crc.Join(crc.Sum(b), crc.Sum(c), len(c)), len(b)+len(c))
		if one != two || one != crc.Sum(a, b, c) {
			t.Errorf("Join of three: %d, %d, want %d", one, two, crc.Sum(a, b, c))
		}
	}
}

// P2.4: sums of three pieces that are as long.
func TestSumsOfThreeXored(t *testing.T) {
	l := texts()
	for i := 3; i < len(l); i += 3 {
		n := min(len(l[i]), len(l[i-3]))
		a, b, c := l[i][:n], l[i-3][:n], l[i+2][:n]
		all := make([]byte, n)
		for k := range all {
			all[k] = a[k] ^ b[k] ^ c[k]
		}
		if got, want := crc.Sum(a)^crc.Sum(b)^crc.Sum(c), crc.Sum(all); got != want {
			t.Errorf("three of %d bytes: %d, want %d", n, got, want)
		}
	}
}

// differences answers, for each bit of texts of so many bytes, in what sums differ when it does: it is the same for all texts (sums of three, xor-ed, tell so). The last byte's bits come first.
func differences(n int) []uint32 {
	var l []uint32
	nought := []byte{0}
	var with [8]uint32
	for bit := range with {
		with[bit] = crc.Sum([]byte{1 << bit})
	}
	without := crc.Sum(nought)
	for range n {
		for bit := range with {
			l = append(l, with[bit]^without)
			with[bit] = crc.More(with[bit], nought)
		}
		without = crc.More(without, nought)
	}
	return l
}

// P2.4: one to three bits, up to 2^16 bytes, all of them: no bit's difference is none, no two are the same; and each has an odd number of bits, so that three don't go out.
func TestFewBitsDiffer(t *testing.T) {
	l := differences(longest)
	for i, d := range l {
		if bits.OnesCount32(d)%2 == 0 {
			t.Fatalf("bit %d from the end: sums differ in %032b", i, d)
		}
	}
	slices.Sort(l)
	if len(slices.Compact(l)) != 8*longest {
		t.Error("two bits change sums alike")
	}
}

// P2.4: the same of texts themselves: short ones whole, the longest ones here and there.
func TestFewBitsOfTextsDiffer(t *testing.T) {
	b := []byte("hectare")
	sum := crc.Sum(b)
	for i := range 8 * len(b) {
		if crc.Sum(flipped(b, i)) == sum {
			t.Fatalf("bit %d of %q makes no difference", i, b)
		}
		for k := range i {
			if crc.Sum(flipped(b, i, k)) == sum {
				t.Fatalf("bits %d, %d of %q make no difference", i, k, b)
			}
			for m := range k {
				if crc.Sum(flipped(b, i, k, m)) == sum {
					t.Fatalf("bits %d, %d, %d of %q make no difference", i, k, m, b)
				}
			}
		}
	}
	long := slices.Repeat([]byte("a hectare has a hundred ares. :)"), longest/32)
	sum = crc.Sum(long)
	x := uint32(1)
	at := func() int {
		x = x*1664525 + 1013904223
		return int(x >> 13)
	}
	for range 100 {
		i, k, m := at(), at(), at()
		if i == k || k == m || i == m {
			continue
		}
		if crc.Sum(flipped(long, i)) == sum || crc.Sum(flipped(long, i, k)) == sum || crc.Sum(flipped(long, i, k, m)) == sum {
			t.Fatalf("bits %d, %d, %d of %d bytes make no difference", i, k, m, len(long))
		}
	}
}

// independent tells whether no words of l, xor-ed together, are none.
func independent(l []uint32) bool {
	var top [32]uint32 // by its highest bit, a word that none of the others makes
	for _, d := range l {
		for d != 0 && top[bits.Len32(d)-1] != 0 {
			d ^= top[bits.Len32(d)-1]
		}
		if d == 0 {
			return false
		}
		top[bits.Len32(d)-1] = d
	}
	return true
}

// P2.4: texts that differ within 32 bits that follow each other, wherever these stand: their differences are independent, so that any of them together make one.
func TestBitsThatFollowEachOtherDiffer(t *testing.T) {
	l := differences(longest)
	slices.Reverse(l) // in the order of bytes; in a byte the highest bit comes first now
	for i := 0; i < len(l); i += 8 {
		slices.Reverse(l[i : i+8]) // the register takes the lowest bit first
	}
	for i := 0; i+32 <= len(l); i++ {
		if !independent(l[i : i+32]) {
			t.Fatalf("some of the 32 bits from %d on make no difference", i)
		}
	}
	b := slices.Repeat([]byte("0123456789"), 5)
	sum := crc.Sum(b)
	x := uint32(1)
	for i := range 8*len(b) - 31 {
		for range 50 {
			x = x*1664525 + 1013904223
			var at []int
			for bit := range 32 {
				if x>>bit&1 == 1 {
					at = append(at, i+bit)
				}
			}
			if x != 0 && crc.Sum(flipped(b, at...)) == sum {
				t.Fatalf("bits %v of %d bytes make no difference", at, len(b))
			}
		}
	}
}
