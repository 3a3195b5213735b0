package table_test

import (
	"math"
	"slices"
	"strings"
	"testing"

	"hectare/api"
	"hectare/bloom"
	"hectare/ikey"
	"hectare/table"
)

// seen is what one sees of the key who reads at seq, as the chapter's words have it.
func seen(l []api.Entry, key string, seq int64) (api.Entry, bool) {
	var best api.Entry
	for _, e := range l {
		if string(e.Key) == key && e.Seq <= seq && e.Seq > best.Seq {
			best = e
		}
	}
	return best, best.Seq > 0
}

// from are the entries whose keys are not below the key.
func from(l []api.Entry, key string) []api.Entry {
	for i, e := range l {
		if string(e.Key) >= key {
			return l[i:]
		}
	}
	return nil
}

// keysBy are the keys of entries, and such as stand beside these.
func keysBy(l []api.Entry) []string {
	keys := []string{"", "\x00", "k", "\xff", long(32), long(33), long(70000), "\xff" + long(40)}
	for _, e := range l {
		key := string(e.Key)
		last := len(key) - 1
		keys = append(keys, key, key+"\x00", key+"\xff", key[:last], key[:last]+string([]byte{key[last] - 1}), key[:last]+string([]byte{key[last] + 1}), key[:last]+string([]byte{key[last] - 1})+"\xff")
	}
	slices.Sort(keys)
	return slices.Compact(keys)
}

// seqsBy are the numbers of entries, and those beside them.
func seqsBy(l []api.Entry) []int64 {
	seqs := []int64{math.MinInt64, math.MinInt64 + 1, -1, 0, 1, 2, api.MaxNumber, api.MaxNumber + 1, math.MaxInt64 - 1, math.MaxInt64}
	for _, e := range l {
		seqs = append(seqs, e.Seq-1, e.Seq, e.Seq+1)
	}
	slices.Sort(seqs)
	return slices.Compact(seqs)
}

// each are each n-th of these, from the first one on.
func each[T any](l []T, n int) []T {
	var few []T
	for i := 0; i < len(l); i += n {
		few = append(few, l[i])
	}
	return few
}

// gets says that Get tells of a key at these numbers just what of the entries is seen.
func gets(t *testing.T, at *table.Table, l []api.Entry, key string, seqs []int64) {
	t.Helper()
	var of []api.Entry // the others change nothing of what is seen
	for _, e := range l {
		if string(e.Key) == key {
			of = append(of, e)
		}
	}
	for _, seq := range seqs {
		e, no := at.Get([]byte(key), seq)
		want, is := seen(of, key, seq)
		if is && (no != api.OK || !ikey.Same(e, want)) || !is && (no != api.ErrNone || !zero(e)) {
			t.Fatalf("Get(%.40q, %d) of %s: %s, %v", key, seq, tellAll(l), tell(e), no)
		}
	}
}

// has says that the view has just these entries.
func has(t *testing.T, at *table.Table, l []api.Entry) {
	t.Helper()
	if got := over(at.All()); !same(got, l) {
		t.Fatalf("All: %s, want %s", tellAll(got), tellAll(l))
	}
	first, one := at.First()
	last, two := at.Last()
	switch n := len(l); {
	case n == 0 && (one || two || !zero(first) || !zero(last)):
		t.Fatalf("of nothing: First %s, %v, Last %s, %v", tell(first), one, tell(last), two)
	case n > 0 && (!one || !two || !ikey.Same(first, l[0]) || !ikey.Same(last, l[n-1])):
		t.Fatalf("of %s: First %s, %v, Last %s, %v", tellAll(l), tell(first), one, tell(last), two)
	}
	if n := at.Len(); n != len(l) {
		t.Fatalf("of %s: Len %d", tellAll(l), n)
	}
}

// tells says that a table tells just what its entries are, at each n-th key and number beside them.
func tells(t *testing.T, l []api.Entry, n int) {
	t.Helper()
	at := opened(t, l...)
	has(t, at, l)
	seqs := each(seqsBy(l), n)
	for _, key := range each(keysBy(l), n) {
		gets(t, at, l, key, seqs)
		if got := over(at.From([]byte(key))); !same(got, from(l, key)) {
			t.Fatalf("From(%.40q) of %s: %s", key, tellAll(l), tellAll(got))
		}
	}
}

// P9.2, P9.3: what is told of tables of few entries at all keys and numbers, and of more at some.
func TestLooking(t *testing.T) {
	tells(t, list(put("a", 5, "")), 1)
	tells(t, list(del("a", 1)), 1)
	tells(t, list(put("a", 7, "x"), del("a", 5), put("a", 3, ""), del("a", 2), put("a", 1, "y")), 1)
	tells(t, list(put("a", 9, "x"), del("b", 5), put("b", 3, ""), del("ba", api.MaxNumber), put("c", 1, "y")), 1)
	tells(t, list(del("\x00", 3), del("\x00\x00", 5), del("\x00\x01", 4), del("\xff", 9), put("\xff\x00", 2, "z"), del("\xff\xff", 1)), 1)
	tells(t, list(del(long(31), 3), del(long(32), 5), del(long(32), 4)), 1)
	tells(t, list(put("a", 3, long(600)), put("b", 2, long(600)), put("c", api.MaxNumber, long(600)), put("c", 1, long(65536))), 1)
	for n := range 12 {
		tells(t, many(11*n+1), 1+n*n/3)
		tells(t, some(3*n+1, uint32(n)), 1+n/2)
	}
	tells(t, many(1000), 101)
}

// P9.2, P9.3: of a key whose entries fill several blocks each is seen.
func TestAKeyOfManyBlocks(t *testing.T) {
	l := slices.Concat(list(del("j", 3)), versions("k", 60, 60), list(put("ka", 9, long(500))), versions("kb", 5, 500), list(del("l", 9)))
	if n := opened(t, l...).Blocks(); n < 12 {
		t.Fatalf("%d blocks", n)
	}
	tells(t, l, 1)
}

// P9.2, P9.3: each of a full table's entries is found, by its number and by the next one, and what stands behind it.
func TestAFullTable(t *testing.T) {
	l := many(4096)
	at := opened(t, l...)
	has(t, at, l)
	for i, e := range l {
		for _, seq := range []int64{e.Seq, e.Seq + 1} {
			want, _ := seen(l[max(i-2, 0):min(i+3, len(l))], string(e.Key), seq)
			if got, no := at.Get(e.Key, seq); !ikey.Same(got, want) || no != api.OK {
				t.Fatalf("Get(%q, %d): %s, %v", e.Key, seq, tell(got), no)
			}
		}
		if i%128 == 0 {
			if got := over(at.From(e.Key)); !same(got, from(l, string(e.Key))) {
				t.Fatalf("From(%s): %s", tell(e), tellAll(got))
			}
		}
	}
}

// P9.2: May says what the filter says: never no of a key that is there.
func TestMay(t *testing.T) {
	for _, l := range each(lists(), 3) {
		at := opened(t, l...)
		keys := map[string]int{}
		for _, e := range l {
			keys[string(e.Key)]++
			if !at.May(e.Key) {
				t.Fatalf("May(%q) of %s", e.Key, tellAll(l))
			}
		}
		filter := []byte(filterOf(keys))
		for _, key := range each(keysBy(l), 1+len(l)/200) {
			if got, want := at.May([]byte(key)), bloom.May(filter, []byte(key)); got != want {
				t.Fatalf("May(%.40q) of %s: %v", key, tellAll(l), got)
			}
		}
	}
}

// P9.2: a key that the filter does not rule out, and is not there, is none.
func TestGetOfWhatMayBe(t *testing.T) {
	at := opened(t, put("a", 5, "x"), put("b", 5, "x"), put("y", 5, "x"), put("z", 5, "x"))
	times := 0
	for i := range 20000 {
		key := "m" + strings.Repeat("n", i%3) + string(rune('a'+i%26)) + string(rune('a'+i/26%26)) + string(rune('a'+i/676))
		if !at.May([]byte(key)) {
			continue
		}
		times++
		if e, no := at.Get([]byte(key), 9); !zero(e) || no != api.ErrNone {
			t.Errorf("Get(%q): %s, %v", key, tell(e), no)
		}
	}
	if times == 0 {
		t.Error("the filter rules all of them out")
	}
}

// P9.3: who goes over a table may leave at any time, and go as often as he likes, also within another going.
func TestGoingIsLeft(t *testing.T) {
	l := many(60)
	at := opened(t, l...)
	for _, all := range []func(func(api.Entry) bool){at.All(), at.From(nil), at.From(l[0].Key)} {
		for n := range 61 {
			var got []api.Entry
			for e := range all {
				if len(got) == n {
					break
				}
				got = append(got, e)
			}
			if !same(got, l[:n]) {
				t.Errorf("the first %d: %s", n, tellAll(got))
			}
		}
		times := 0
		for range all {
			if got := over(all); !same(got, l) {
				t.Errorf("within another going: %s", tellAll(got))
			}
			times++
		}
		if times != 60 {
			t.Errorf("%d times", times)
		}
	}
}

// P9.2, P9.3 (and the rules for all layers): keys that are handed in are not kept, what is told is new memory.
func TestLookingIsNewMemory(t *testing.T) {
	l := many(60)
	at := opened(t, l...)
	whole := string(at.Bytes())
	key := slices.Clone(l[30].Key)
	behind := at.From(key)
	clear(key)
	if got := over(behind); !same(got, from(l, string(l[30].Key))) {
		t.Errorf("the key was changed: %s", tellAll(got))
	}
	key = slices.Clone(l[30].Key)
	for _, e := range l {
		got, _ := at.Get(e.Key, e.Seq)
		spoil(got)
		first, _ := at.First()
		last, _ := at.Last()
		spoil(first, last)
		at.May(key)
	}
	for e := range at.All() {
		spoil(e)
	}
	spoil(over(behind)...)
	b := at.Bytes()
	clear(b)
	_ = append(b, "!!!!!!!!"...)
	if string(key) != string(l[30].Key) || string(at.Bytes()) != whole {
		t.Errorf("%q", key)
	}
	has(t, at, l)
}

// P9.2 to P9.4: of a nil table, and of a zero one.
func TestNoTable(t *testing.T) {
	for _, at := range []*table.Table{nil, {}, (*table.Table)(nil).Clip(nil, nil, false), (&table.Table{}).Clip([]byte("a"), []byte("b"), true)} {
		for _, key := range [][]byte{nil, []byte("a")} {
			if e, no := at.Get(key, 9); !zero(e) || no != api.ErrNil {
				t.Errorf("Get(%q): %s, %v", key, tell(e), no)
			}
			if at.May(key) || over(at.From(key)) != nil {
				t.Errorf("May(%q): %v, From: %s", key, at.May(key), tellAll(over(at.From(key))))
			}
			for _, end := range []bool{false, true} {
				if c := at.Clip(key, []byte("z"), end); c != nil {
					t.Errorf("Clip(%q)", key)
				}
			}
		}
		has(t, at, nil)
		if at.Blocks() != 0 || at.Bytes() != nil {
			t.Errorf("Blocks %d, Bytes % x", at.Blocks(), at.Bytes())
		}
	}
}
