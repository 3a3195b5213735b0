package bloom_test

import (
	"bytes"
	"slices"
	"testing"

	"hectare/api"
	"hectare/bloom"
)

// chance answers numbers below n, by a rule.
func chance(seed uint32) func(n int) int {
	return func(n int) int {
		seed = seed*1664525 + 1013904223
		return int(seed>>8) % n
	}
}

// mixed are the keys in another order.
func mixed(keys [][]byte, seed uint32) [][]byte {
	below := chance(seed)
	l := slices.Clone(keys)
	for i := len(l) - 1; i > 0; i-- {
		k := below(i + 1)
		l[i], l[k] = l[k], l[i]
	}
	return l
}

// P7.3: May is never no of a key that was handed to Make.
func TestMayOfMake(t *testing.T) {
	keys := some()
	for n := range keys {
		filter := made(t, keys[:n]...)
		for _, key := range keys[:n] {
			if !bloom.May(filter, key) {
				t.Fatalf("May is no of %.9q in a filter of %d", key, n)
			}
		}
	}
	all := many(65536)
	filter := made(t, all...)
	for _, key := range all {
		if !bloom.May(filter, key) {
			t.Fatalf("May is no of %q in a filter of all", key)
		}
	}
}

// P7.3: May is never no of a key that was handed to Add, or to Make ahead of that, whatever else is added, and however small the filter is.
func TestMayOfAdd(t *testing.T) {
	keys := some()
	for _, first := range []int{0, 3, 40} {
		filter := made(t, keys[:first]...)
		for n := first; n < 200; n++ {
			more, e := bloom.Add(filter, keys[n])
			if e != api.OK || len(more) != len(filter) || bloom.Count(more) < bloom.Count(filter) {
				t.Fatalf("Add(%.9q): %d bytes, %v", keys[n], len(more), e)
			}
			filter = more
			for _, key := range keys[:n+1] {
				if !bloom.May(filter, key) {
					t.Fatalf("May is no of %.9q, when %d were added", key, n+1-first)
				}
			}
		}
	}
}

// P7.3: all orders of five keys, two of which are the same, and some orders of many.
func TestOrderChangesNothing(t *testing.T) {
	keys := texts("a", "b", "c", "a", "")
	want := made(t, keys...)
	orders := 0
	var turn func(n int)
	turn = func(n int) {
		if n == len(keys) {
			orders++
			if got := made(t, keys...); !bytes.Equal(got, want) {
				t.Fatalf("Make of %q: % x, want % x", keys, got, want)
			}
			return
		}
		for i := n; i < len(keys); i++ {
			keys[n], keys[i] = keys[i], keys[n]
			turn(n + 1)
			keys[n], keys[i] = keys[i], keys[n]
		}
	}
	turn(0)
	if orders != 120 {
		t.Errorf("%d orders", orders)
	}
	l := some()
	want = made(t, l...)
	for seed := range uint32(30) {
		if got := made(t, mixed(l, seed)...); !bytes.Equal(got, want) {
			t.Fatalf("Make of %d keys in the order %d is another filter", len(l), seed)
		}
	}
}

// P7.3: Add of all keys, one by one, in any order, to a filter of noughts is Make; added once more, they change nothing.
func TestAddsAreMake(t *testing.T) {
	keys := some()
	for n := range 150 {
		l := keys[n/2 : n/2+n]
		filter := make([]byte, bloom.Size(n))
		for range 2 {
			for _, key := range mixed(l, uint32(n)) {
				more, e := bloom.Add(filter, key)
				if e != api.OK {
					t.Fatalf("Add(%.9q): %v", key, e)
				}
				filter = more
			}
			if !bytes.Equal(filter, made(t, l...)) {
				t.Fatalf("Add of %d keys is another filter than Make", n)
			}
		}
	}
}

// P7.1, P7.2: one and the same calls answer one and the same, however often, and whatever was called between.
func TestNothingIsKept(t *testing.T) {
	keys := some()[:20]
	want := made(t, keys...)
	for range 3 {
		bloom.Make(make([][]byte, 65537)...)
		bloom.Add(want, []byte("another"))
		bloom.Add(nil, []byte("another"))
		bloom.Bits([]byte("a"), -1)
		if got := made(t, keys...); !bytes.Equal(got, want) {
			t.Fatal("Make of the same keys is another filter")
		}
	}
}
