package block_test

import (
	"bytes"
	"math"
	"strings"
	"testing"

	"hectare/block"
)

// closed are parts of entries with the places of the restarts 0, 4, 8, .. behind them.
func closed(parts ...string) string {
	b, at := "", []int{}
	for i, p := range parts {
		if i%4 == 0 {
			at = append(at, len(b))
		}
		b += p
	}
	return b + four(append(at, len(at))...)
}

// isBlock says that these are a block's bytes: of what is refused beside it just what was changed is wrong.
func isBlock(t *testing.T, b string) {
	t.Helper()
	if _, no := block.Read([]byte(b)); no != 0 {
		t.Errorf("Read(% x): %v", b[:min(len(b), 100)], no)
	}
}

// P8.1: bytes that are too few, or begin well.
func TestReadTooFew(t *testing.T) {
	for _, b := range []string{
		"", "\x00", "\x01", "\x00\x00", "\x00\x00\x00", "\x00\x00\x00\x00", "\x00\x00\x00\x01", "\x01\x00\x00\x00", "\xff\xff\xff\xff", "\x00\x00\x00\x00\x00\x00\x00\x00", "\x00\x00\x00\x00\x00\x00\x00\x01",
		"\x00\x00\x00\x00\x00\x00\x00\x02", "\x00\x00\x00\x01\x00\x00\x00\x01", strings.Repeat("\x00", 12), strings.Repeat("\x00", 4096), strings.Repeat("\xff", 4096), strings.Repeat("\x01", 4096),
	} {
		isNone(t, b)
	}
	for _, n := range []int{1, 2, 3, 4, 5, 9} {
		b := string(made(t, many(n)...))
		for i := range b {
			isNone(t, b[:i])
			isNone(t, b[i+1:])
		}
	}
}

// P8.1: as much is shared as there is, at restarts nothing; no other way of writing the same.
func TestReadOtherShares(t *testing.T) {
	a := part(0, "abc", 5, 2)
	isBlock(t, closed(a, part(2, "d", 5, 2)))
	isNone(t, closed(a, part(1, "bd", 5, 2)))
	isNone(t, closed(a, part(0, "abd", 5, 2)))
	isBlock(t, closed(a, part(3, "d", 5, 2)))
	isNone(t, closed(a, part(2, "cd", 5, 2)))
	isBlock(t, closed(a, part(3, "", 4, 2)))
	isNone(t, closed(a, part(0, "abc", 4, 2)))
	for _, shared := range []uint64{4, 5, 127, 128, 1 << 31, 1 << 32, 1<<32 + 3, 1 << 63, 1<<63 + 3, math.MaxUint64} {
		isNone(t, closed(a, part(shared, "d", 5, 2)))
		isNone(t, closed(a, part(shared, "", 4, 2)))
		isNone(t, closed(part(shared, "d", 5, 2)))
		isNone(t, closed(part(shared, "", 5, 2)))
	}
	four := []string{part(0, "abc", 9, 2), part(3, "", 8, 2), part(3, "", 7, 2), part(3, "", 6, 2)}
	isBlock(t, closed(append(four, part(0, "abd", 5, 2))...))
	isNone(t, closed(append(four, part(2, "d", 5, 2))...))
	isNone(t, closed(append(four, part(1, "bd", 5, 2))...))
	isBlock(t, closed(append(four, part(0, "b", 5, 2))...))
}

// P8.1: entries that may not be, first or behind another one.
func TestReadWhatMayNotBe(t *testing.T) {
	first := func(rest string, seq, kind uint64, value ...string) {
		t.Helper()
		isNone(t, closed(part(0, rest, seq, kind, value...)))
		isNone(t, closed(part(0, "\x00", 5, 2), part(0, rest, seq, kind, value...)))
	}
	first("", 5, 2)
	first("", 5, 1, "x")
	first(long(33), 5, 2)
	first(long(128), 5, 2)
	first(long(70000), 5, 1, "x")
	for _, seq := range []uint64{0, 1 << 31, 1<<31 + 5, 1 << 32, 1<<32 + 5, 1 << 63, 1<<63 + 5, math.MaxUint64} {
		first("a", seq, 2)
		first("a", seq, 1, "x")
	}
	for _, kind := range []uint64{0, 3, 127, 128, 129, 130, 1<<32 + 1, 1<<32 + 2, 1<<63 + 1, 1<<63 + 2, math.MaxUint64} {
		first("a", 5, kind)
		first("a", 5, kind, "")
		first("a", 5, kind, "x")
	}
	first("a", 5, 1)
	first("a", 5, 1, "x", "")
	first("a", 5, 2, "")
	first("a", 5, 2, "x")
	first("a", 5, 1, long(65537))
	first("a", 5, 1, long(1<<20))
	isBlock(t, closed(part(0, "a", 5, 1, long(65536))))
	isBlock(t, closed(part(0, long(31), 5, 2), part(31, "y", 5, 2)))
	isNone(t, closed(part(0, long(31), 5, 2), part(31, "yy", 5, 2)))
	isNone(t, closed(part(0, long(32), 5, 2), part(32, "y", 5, 2)))
}

// P8.1: entries that don't rise.
func TestReadWhatDoesNotRise(t *testing.T) {
	b := part(0, "b", 5, 2)
	for _, p := range []string{part(0, "a", 5, 2), part(0, "a", 9, 2), part(1, "", 5, 2), part(1, "", 6, 2), part(1, "", 5, 1, "x"), part(0, "\x00", 5, 2)} {
		isNone(t, closed(b, p))
		isNone(t, closed(part(0, "a\x00", 5, 2), part(0, "ab", 5, 2), part(0, "ac", 5, 2), b, p)) // ahead of a restart, which would share nothing
	}
	isNone(t, closed(part(0, "bb", 5, 2), part(1, "", 5, 2)))
	isNone(t, closed(part(0, "a", 5, 2), part(0, "b", 5, 2), part(0, "c", 5, 2), part(0, "d", 5, 2), part(0, "d", 5, 2)))
	isNone(t, closed(part(0, "a", 5, 2), part(0, "b", 5, 2), part(0, "c", 5, 2), part(0, "d", 5, 2), part(0, "c", 5, 2)))
	isBlock(t, closed(part(0, "a", 5, 2), part(0, "b", 5, 2), part(0, "c", 5, 2), part(0, "d", 5, 2), part(0, "d", 4, 2)))
}

// P8.1: restarts that are others than these.
func TestReadOtherRestarts(t *testing.T) {
	want, at := spelt(many(9))
	entries := want[:len(want)-16]
	isBlock(t, entries+four(at[0], at[1], at[2], 3))
	one, two := at[1], at[2]
	for _, places := range [][]int{
		{}, {0}, {1}, {2}, {3}, {4}, {0, 1}, {0, 2}, {0, one, 2}, {0, one, 1}, {one, two, 2}, {0, two, 2}, {0, one, two}, {0, one, two, 0}, {0, one, two, 1}, {0, one, two, 2}, {0, one, two, 4}, {0, one, two, two, 3}, {0, one, two, two, 4},
		{0, 0, one, two, 4}, {one, one, two, 3}, {0, two, one, 3}, {1, one, two, 3}, {0, one + 1, two, 3}, {0, one - 1, two, 3}, {0, one, two + 1, 3}, {0, one, two - 1, 3}, {0, one, 0, 3}, {0, one, len(entries), 3},
		{0, one, two, len(entries), 4}, {0, one, 1<<31 + two, 3}, {1 << 31, one, two, 3}, {0, one, two, 1<<31 + 3}, {0, one, two, 1<<32 - 1}, {0, one, two, 1<<30 + 3}, {0, one, two, 3 << 8}, {0, one, two, 3 << 24}, {0, one, two, 3, 3}, {0, one, two, 3, 0},
	} {
		isNone(t, entries+four(places...))
	}
	isNone(t, want+"\x00")
	isNone(t, "\x00"+want)
	isNone(t, entries+"\x00"+want[len(entries):])
	isNone(t, want+want)
}

// P8.1: numbers in longer forms than theirs, and parts that go on into the restarts.
func TestReadOtherForms(t *testing.T) {
	for _, p := range []string{
		"\x80\x00\x01a\x05\x02", "\x00\x81\x00a\x05\x02", "\x00\x01a\x85\x00\x02", "\x00\x01a\x05\x82\x00", "\x00\x01a\x05\x01\x81\x00x", "\x00\x01a\x05\x01\x80\x00", "\x00\x01a\x85\x80\x00\x02",
		"\x00\x02a\x05\x02", "\x00\x01a\x05", "\x00\x01a\x85", "\x00\x01a", "\x00\x01", "\x00", "\x80", "\x00\x01a\x05\x01", "\x00\x01a\x05\x01\x01", "\x00\x01a\x05\x01\x04", "\x00\x05a", "\x00\x09a", "\x00\x01a\x05\x01\x08",
		"\x00\xff\xff\xff\xff\xff\xff\xff\xff\xff\x01a\x05\x02", "\x00\xff\xff\xff\xff\xff\xff\xff\xff\xff\x02a\x05\x02", "\x00\x01a\x05\x01\xff\xff\xff\xff\xff\xff\xff\xff\xff\x01",
	} {
		isNone(t, closed(p))
		isNone(t, closed("\x00\x01\x00\x05\x02", p))
		isNone(t, closed("\x00\x01\x00\x05\x02", p, "\x00\x01b\x05\x02"))
	}
}

// P8.1, P0.9: each bit turned is another block or none, as the chapter's words have it.
func TestReadOfTurnedBits(t *testing.T) {
	for _, n := range []int{1, 4, 5, 12} {
		b := made(t, many(n)...)
		for i := range len(b) * 8 {
			b[i/8] ^= 1 << (i % 8)
			readAs(t, b)
			b[i/8] ^= 1 << (i % 8)
		}
	}
}

// readAs says that b is read as the chapter's words have it, and tells whether it is a block.
func readAs(t *testing.T, b []byte) bool {
	t.Helper()
	want, at, is := model(b)
	if !is {
		isNone(t, string(b))
		return false
	}
	got, no := block.Read(b)
	again, other := block.Write(got...)
	if !same(got, want) || no != 0 || other != 0 || !bytes.Equal(again, b) || block.Size(got...) != len(b) {
		t.Errorf("Read(% x): %s, %v, want %s; which is written % x, %v", b, tellAll(got), no, tellAll(want), again, other)
	}
	places, no := block.Restarts(b)
	if len(places) != len(at) || no != 0 {
		t.Errorf("Restarts(% x): %v, %v, want %v", b, places, no, at)
	}
	return true
}
