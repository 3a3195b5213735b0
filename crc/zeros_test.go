package crc_test

import (
	"math"
	"testing"

	"hectare/crc"
)

// round is how many bytes 0 bring any sum back: the polynomial's factors are x + 1 and one whose powers come back at 2^31 - 1 bits, a prime, so bytes do, too.
const round = 1<<31 - 1

// notAbove0 are numbers of bytes that are as none.
func notAbove0() []int {
	return []int{0, -1, -2, -8, -256, math.MinInt32, math.MinInt64 + 1, math.MinInt64}
}

// P2.2: Zeros, one by one, held against bytes 0 that are there.
func TestZeros(t *testing.T) {
	if crc.Zeros(0, 4) != 1214729159 || crc.Zeros(7, -1) != 7 {
		t.Errorf("Zeros(0, 4), Zeros(7, -1): %d, %d", crc.Zeros(0, 4), crc.Zeros(7, -1))
	}
	for _, sum := range sums() {
		for _, n := range notAbove0() {
			if got := crc.Zeros(sum, n); got != sum {
				t.Errorf("Zeros(%d, %d): %d", sum, n, got)
			}
		}
		want := sum
		for n := range 300 {
			if got := crc.Zeros(sum, n); got != want {
				t.Fatalf("Zeros(%d, %d): %d, want %d", sum, n, got, want)
			}
			want = known(want, []byte{0})
		}
	}
}

// P2.2: Zeros, longer runs.
func TestLongerZeros(t *testing.T) {
	noughts := make([]byte, 1<<20+1)
	for _, n := range []int{511, 512, 513, 1000, 4095, 4096, 65535, 65536, 65537, 99999, 1<<20 - 1, 1 << 20, 1<<20 + 1} {
		for _, sum := range []uint32{0, 7, 3808858755, 1<<32 - 1} {
			if got, want := crc.Zeros(sum, n), known(sum, noughts[:n]); got != want {
				t.Errorf("Zeros(%d, %d): %d, want %d", sum, n, got, want)
			}
		}
	}
}

// P2.2: however great n is, it ends soon, and is right: all numbers that are as far beyond a round answer the same.
func TestGreatestZeros(t *testing.T) {
	for _, x := range []struct{ n, same int }{
		{round, 0}, {round + 1, 1}, {round - 1 + round, round - 1}, {math.MaxUint32, 1}, {1 << 32, 2}, {round * 1000, 0}, {round*round + 9, 9},
		{1 << 60, 1 << 29}, {1 << 61, 1 << 30}, {1 << 62, 1}, {1<<62 - 1, 0}, {math.MaxInt64 - 1, 0}, {math.MaxInt64, 1},
	} {
		for _, sum := range sums() {
			if got, want := crc.Zeros(sum, x.n), crc.Zeros(sum, x.same); got != want {
				t.Errorf("Zeros(%d, %d): %d, want %d", sum, x.n, got, want)
			}
			if got, want := crc.Join(sum, 5, x.n), crc.Join(sum, 5, x.same); got != want {
				t.Errorf("Join(%d, 5, %d): %d, want %d", sum, x.n, got, want)
			}
		}
	}
	for k := range 63 { // one run is two of its halves
		for _, sum := range sums() {
			n := 1<<k - 1
			if got, want := crc.Zeros(crc.Zeros(sum, n), n+1), crc.Zeros(sum, n+n+1); got != want {
				t.Errorf("Zeros(%d, %d + %d): %d, want %d", sum, n, n+1, got, want)
			}
		}
	}
}

// P2.3: Join, of any text cut anywhere.
func TestJoin(t *testing.T) {
	five := []byte("56789")
	if got := crc.Join(crc.Sum([]byte("1234")), crc.Sum(five), len(five)); got != 3808858755 {
		t.Errorf("Join of 1234 and 56789: %d", got)
	}
	for _, b := range texts()[:120] {
		for i := range len(b) + 1 {
			if got, want := crc.Join(known(0, b[:i]), known(0, b[i:]), len(b)-i), known(0, b); got != want {
				t.Fatalf("Join of % x and % x: %d, want %d", b[:i], b[i:], got, want)
			}
		}
	}
	for _, a := range sums() { // bytes of which there is but the sum
		for _, b := range texts() {
			if got, want := crc.Join(a, known(0, b), len(b)), known(a, b); got != want {
				t.Fatalf("Join(%d) with %d bytes: %d, want %d", a, len(b), got, want)
			}
		}
	}
}

// P2.3: nothing behind a is a, and a number below 0 is as 0.
func TestJoinOfNothing(t *testing.T) {
	for _, a := range sums() {
		for _, n := range notAbove0() {
			if got := crc.Join(a, 0, n); got != a {
				t.Errorf("Join(%d, 0, %d): %d", a, n, got)
			}
			for _, b := range sums() {
				if got, want := crc.Join(a, b, n), crc.Join(a, b, 0); got != want {
					t.Errorf("Join(%d, %d, %d): %d, want %d, as for 0", a, b, n, got, want)
				}
			}
		}
		for _, b := range texts() { // behind nothing it is what stands there
			if got, want := crc.Join(0, known(0, b), len(b)), known(0, b); got != want {
				t.Errorf("Join(0) with %d bytes: %d, want %d", len(b), got, want)
			}
		}
	}
}
