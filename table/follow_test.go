package table_test

import (
	"slices"
	"testing"

	"hectare/api"
	"hectare/ikey"
	"hectare/skip"
	"hectare/table"
)

// P9.5, P0.10: Open of Write says the entries, all of them, in order; and what was opened is written so again.
func TestThereAndBack(t *testing.T) {
	for _, l := range lists() {
		b := written(t, l...)
		at, no := table.Open(b)
		if at == nil || no != api.OK {
			t.Fatalf("Open of Write of %s: %v", tellAll(l), no)
		}
		got := over(at.All())
		if !same(got, l) || !slices.Equal(at.Bytes(), b) {
			t.Fatalf("Open of Write of %s: %s", tellAll(l), tellAll(got))
		}
		if again := written(t, got...); !slices.Equal(again, b) {
			t.Fatalf("Write of what was opened: %d bytes, of %d", len(again), len(b))
		}
	}
}

// P9.5, P0.6: one byte changed, and it is corrupt: each byte to all others, of small tables; of greater ones to some.
func TestOneByteChanged(t *testing.T) {
	for n, l := range [][]api.Entry{list(put("a", 5, "v")), list(put("a", 5, "v"), put("a", 3, "v"), put("b", 9, "v")), some(12, 3), many(60)} {
		b := written(t, l...)
		for at := range b {
			for other := 1; other < 256; other += 1 + n*n*9 {
				b[at] ^= byte(other)
				isNone(t, string(b))
				b[at] ^= byte(other)
			}
		}
	}
}

// P9.5, P0.6: bytes cut off, taken out, or one more, anywhere, and it is corrupt.
func TestOneByteMoreOrFewer(t *testing.T) {
	for n, l := range [][]api.Entry{list(put("a", 5, "v")), list(put("a", 5, "v"), put("a", 3, "v"), put("b", 9, "v")), some(12, 3), many(60)} {
		b := written(t, l...)
		for at := range len(b) + 1 {
			if at < len(b) {
				isNone(t, string(b[:at]))
				isNone(t, string(b[at+1:]))
				isNone(t, string(slices.Delete(slices.Clone(b), at, at+1)))
			}
			for c := 0; c < 256; c += 1 + 17*n*n {
				isNone(t, string(slices.Insert(slices.Clone(b), at, byte(c))))
			}
		}
		isNone(t, string(b)+string(b))
	}
}

// P9.5, P0.4: entries in a table are told as the table in memory tells them, in all views.
func TestAsInMemory(t *testing.T) {
	for seed := range uint32(12) {
		l := some(10+8*int(seed), seed+500)
		memory := skip.New()
		for _, e := range l {
			memory.Put(e)
		}
		at := opened(t, l...)
		for _, key := range each(keysBy(l), 3) {
			for _, seq := range []int64{0, 1, 40, 90, 246, 1000} {
				e, no := at.Get([]byte(key), seq)
				want, other := memory.Get([]byte(key), seq)
				if !ikey.Same(e, want) || no != other {
					t.Fatalf("Get(%.40q, %d) of %s: %s, %v", key, seq, tellAll(l), tell(e), no)
				}
			}
			if got := over(at.From([]byte(key))); !same(got, over(memory.From([]byte(key)))) {
				t.Fatalf("From(%.40q) of %s: %s", key, tellAll(l), tellAll(got))
			}
		}
	}
}

// P9.5: two views side by side have, each entry once, what the whole has; whoever reads at a number sees the same.
func TestViewsSideBySide(t *testing.T) {
	l := many(120)
	at := opened(t, l...)
	for _, key := range each(keysBy(l), 20) {
		low, high := at.Clip(nil, []byte(key), true), at.Clip([]byte(key), nil, false)
		if got := slices.Concat(over(low.All()), over(high.All())); !same(got, l) || low.Len()+high.Len() != at.Len() {
			t.Fatalf("at %.40q: %s", key, tellAll(got))
		}
		for _, seq := range []int64{1, 300, 8950, 9000} {
			got := slices.Concat(over(ikey.Latest(over(low.All()), seq)), over(ikey.Latest(over(high.All()), seq)))
			if want := over(ikey.Latest(l, seq)); !same(got, want) {
				t.Fatalf("at %.40q, %d: %s", key, seq, tellAll(got))
			}
		}
	}
}
