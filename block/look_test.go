package block_test

import (
	"iter"
	"math"
	"slices"
	"testing"

	"hectare/api"
	"hectare/block"
	"hectare/ikey"
)

// over gathers what all goes over.
func over(all iter.Seq[api.Entry]) []api.Entry {
	var l []api.Entry
	for e := range all {
		l = append(l, e)
	}
	return l
}

// seen is what one sees of the key who reads at seq, as the chapter's words have it.
func seen(l []api.Entry, key string, seq int64) (api.Entry, bool) {
	var best api.Entry
	for _, e := range l {
		if string(e.Key) == key && e.Seq <= seq && e.Seq > best.Seq {
			best = e
		}
	}
	return best, best.Seq > 0
}

// from are the entries whose keys are not below the key.
func from(l []api.Entry, key string) []api.Entry {
	for i, e := range l {
		if string(e.Key) >= key {
			return l[i:]
		}
	}
	return nil
}

// keysBy are the keys of entries, and such as stand beside these.
func keysBy(l []api.Entry) []string {
	keys := []string{"", "\x00", "k", "\xff", long(32), long(33), long(70000), "\xff" + long(40)}
	for _, e := range l {
		key := string(e.Key)
		last := len(key) - 1
		keys = append(keys, key, key+"\x00", key+"\xff", key[:last], key[:last]+string([]byte{key[last] - 1}), key[:last]+string([]byte{key[last] + 1}), key[:last]+string([]byte{key[last] - 1})+"\xff")
	}
	slices.Sort(keys)
	return slices.Compact(keys)
}

// seqsBy are the numbers of entries, and those beside them.
func seqsBy(l []api.Entry) []int64 {
	seqs := []int64{math.MinInt64, math.MinInt64 + 1, -1, 0, 1, 2, api.MaxNumber, api.MaxNumber + 1, math.MaxInt64 - 1, math.MaxInt64}
	for _, e := range l {
		seqs = append(seqs, e.Seq-1, e.Seq, e.Seq+1)
	}
	slices.Sort(seqs)
	return slices.Compact(seqs)
}

// tells says that Get and From tell of a block just what its entries are.
func tells(t *testing.T, l []api.Entry) {
	t.Helper()
	b := made(t, l...)
	seqs := seqsBy(l)
	for _, key := range keysBy(l) {
		for _, seq := range seqs {
			e, no := block.Get(b, []byte(key), seq)
			want, is := seen(l, key, seq)
			if is && (no != api.OK || !ikey.Same(e, want)) || !is && (no != api.ErrNone || !zero(e)) {
				t.Fatalf("Get(%.40q, %d) of %s: %s, %v", key, seq, tellAll(l), tell(e), no)
			}
		}
		if got := over(block.From(b, []byte(key))); !same(got, from(l, key)) {
			t.Fatalf("From(%.40q) of %s: %s", key, tellAll(l), tellAll(got))
		}
	}
}

// P8.2: what Get and From tell, of blocks of few entries at all keys and numbers.
func TestGetAndFrom(t *testing.T) {
	tells(t, list(put("a", 5, "")))
	tells(t, list(del("a", 1)))
	tells(t, list(put("a", 7, "x"), del("a", 5), put("a", 3, ""), del("a", 2), put("a", 1, "y")))
	tells(t, list(put("a", 9, "x"), del("b", 5), put("b", 3, ""), del("ba", api.MaxNumber), put("c", 1, "y")))
	tells(t, list(del("\x00", 3), del("\x00\x00", 5), del("\x00\x01", 4), del("\xff", 9), put("\xff\x00", 2, "z"), del("\xff\xff", 1)))
	tells(t, list(del(long(31), 3), del(long(32), 5), del(long(32), 4)))
	for n := range 13 {
		tells(t, many(n+1))
		tells(t, some(n+1, uint32(n)))
	}
}

// P8.2: each of a full block's entries is found, and what stands behind it.
func TestGetOfAFullBlock(t *testing.T) {
	l := many(1024)
	b := made(t, l...)
	for i, e := range l {
		if got, no := block.Get(b, e.Key, e.Seq); !ikey.Same(got, e) || no != api.OK {
			t.Errorf("Get(%s): %s, %v", tell(e), tell(got), no)
		}
		if i%16 == 0 {
			if got := over(block.From(b, e.Key)); !same(got, from(l, string(e.Key))) {
				t.Errorf("From(%s): %s", tell(e), tellAll(got))
			}
		}
	}
	if got := over(block.From(b, nil)); !same(got, l) {
		t.Errorf("From(nil): %s", tellAll(got))
	}
}

// P8.2: a block is looked through, wrong bytes first of all: also at a key that is in none.
func TestGetOfNone(t *testing.T) {
	b := made(t, many(9)...)
	b[0] = 1
	for _, key := range [][]byte{nil, {}, []byte("a"), many(9)[3].Key, []byte(long(33))} {
		for _, seq := range []int64{math.MinInt64, 0, 5, 3000, math.MaxInt64} {
			if e, no := block.Get(b, key, seq); !zero(e) || no != api.ErrBytes {
				t.Errorf("Get(%q, %d): %s, %v", key, seq, tell(e), no)
			}
		}
		if l := over(block.From(b, key)); l != nil {
			t.Errorf("From(%q): %s", key, tellAll(l))
		}
	}
}

// P8.2: who goes over a block may leave at any time, and go as often as he likes, also within another going.
func TestFromIsLeft(t *testing.T) {
	l := many(9)
	all := block.From(made(t, l...), nil)
	for n := range 10 {
		var got []api.Entry
		for e := range all {
			if len(got) == n {
				break
			}
			got = append(got, e)
		}
		if !same(got, l[:n]) {
			t.Errorf("the first %d: %s", n, tellAll(got))
		}
	}
	times := 0
	for range all {
		if got := over(all); !same(got, l) {
			t.Errorf("within another going: %s", tellAll(got))
		}
		times++
	}
	if times != 9 {
		t.Errorf("%d times", times)
	}
}

// P8.2: the entries are those of the bytes and of the key as they were; and each going has new ones.
func TestFromKeepsNothing(t *testing.T) {
	l := many(9)
	b, key := made(t, l...), slices.Clone(l[4].Key)
	want := from(l, string(key))
	all := block.From(b, key)
	clear(key)
	if got := over(all); !same(got, want) {
		t.Errorf("the key was changed: %s", tellAll(got))
	}
	clear(b)
	for range 2 {
		got := over(all)
		if !same(got, want) {
			t.Errorf("the bytes were changed, or the entries of another going: %s", tellAll(got))
		}
		spoil(got...)
	}
	for e := range all {
		spoil(e)
	}
	if got := over(all); !same(got, want) {
		t.Errorf("entries of another going were changed: %s", tellAll(got))
	}
}

// P8.2 (and the rules for all layers): what Get answers is new memory; nothing that is handed in is changed.
func TestGetIsNewMemory(t *testing.T) {
	l := list(put("abcd", 7, "value"), put("abcd", 5, "value"), put("abce", 5, "other"))
	b, key := made(t, l...), []byte("abcd")
	was := slices.Clone(b)
	e, _ := block.Get(b, key, 6)
	spoil(e)
	for range over(block.From(b, key)) {
	}
	if !slices.Equal(b, was) || string(key) != "abcd" {
		t.Errorf("% x, %q", b, key)
	}
	e, no := block.Get(b, key, 6)
	clear(b)
	clear(key)
	if !ikey.Same(e, l[1]) || no != api.OK {
		t.Errorf("%s, %v", tell(e), no)
	}
}

// P8.2: where the restarts' entries begin: each place is one from which the entries are told without those ahead.
func TestRestarts(t *testing.T) {
	for _, x := range []struct {
		l    []api.Entry
		want []int
	}{
		{list(del("a", 5)), []int{0}}, {list(del("a", 5), del("b", 5), del("c", 5), del("d", 5)), []int{0}}, {list(del("a", 5), del("b", 5), del("c", 5), del("d", 5), del("e", 5)), []int{0, 20}},
		{list(put("a", 5, "xyz"), del("b", 500), del("c", 5), del("d", 5), del("da", 5), del("db", 5), del("dc", 5), del("dd", 5), del("de", 5)), []int{0, 25, 46}},
	} {
		if got, no := block.Restarts(made(t, x.l...)); !slices.Equal(got, x.want) || no != api.OK {
			t.Errorf("Restarts of %s: %v, %v, want %v", tellAll(x.l), got, no, x.want)
		}
	}
	for _, l := range lists() {
		b := made(t, l...)
		_, want := spelt(l)
		got, no := block.Restarts(b)
		if !slices.Equal(got, want) || no != api.OK || len(got) != (len(l)+3)/4 {
			t.Errorf("Restarts of %s: %v, %v, want %v", tellAll(l), got, no, want)
			continue
		}
		last := len(got) - 1
		tail := slices.Concat(b[got[last]:len(b)-4*len(got)-4], []byte(four(0, 1)))
		if part, no := block.Read(tail); !same(part, l[4*last:]) || no != api.OK {
			t.Errorf("from the place %d on: %s, %v", got[last], tellAll(part), no)
		}
		got[0] = 77
		if again, _ := block.Restarts(b); !slices.Equal(again, want) {
			t.Errorf("Restarts once more: %v", again)
		}
	}
}
