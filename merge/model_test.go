package merge_test

import (
	"iter"
	"slices"
	"strconv"
	"strings"
	"testing"

	"hectare/api"
	"hectare/ikey"
)

// put is an entry that puts a value.
func put(key string, seq int64, value string) api.Entry {
	return api.Entry{Key: []byte(key), Seq: seq, Kind: api.KindPut, Value: []byte(value)}
}

// del is an entry that deletes.
func del(key string, seq int64) api.Entry {
	return api.Entry{Key: []byte(key), Seq: seq, Kind: api.KindDelete}
}

// read is the entries that a text tells: a5 puts the key a by the number 5, a5=w puts w, a5x deletes.
func read(text string) []api.Entry {
	var l []api.Entry
	for _, word := range strings.Fields(text) {
		word, value, _ := strings.Cut(word, "=")
		word, gone := strings.CutSuffix(word, "x")
		at := strings.IndexAny(word, "-0123456789")
		seq, _ := strconv.ParseInt(word[at:], 10, 64)
		if gone {
			l = append(l, del(word[:at], seq))
		} else {
			l = append(l, put(word[:at], seq, value))
		}
	}
	return l
}

// tell says entries in short, as read takes them.
func tell(l ...api.Entry) string {
	var words []string
	for _, e := range l {
		word := strings.Trim(strconv.Quote(string(e.Key)), `"`) + strconv.FormatInt(e.Seq, 10)
		switch {
		case e.Kind == api.KindDelete:
			word += "x"
		case e.Kind != api.KindPut:
			word += "(" + strconv.Itoa(int(e.Kind)) + ")"
		}
		if len(e.Value) > 0 {
			word += "=" + string(e.Value)
		}
		words = append(words, word)
	}
	return strings.Join(words, " ")
}

// tellPairs says pairs in short.
func tellPairs(l []api.Pair) string {
	var words []string
	for _, p := range l {
		words = append(words, string(p.Key)+"="+string(p.Value))
	}
	return strings.Join(words, " ")
}

// order goes over these entries.
func order(l ...api.Entry) iter.Seq[api.Entry] {
	return slices.Values(l)
}

// orders are functions that go over these lists.
func orders(lists ...[]api.Entry) []iter.Seq[api.Entry] {
	var all []iter.Seq[api.Entry]
	for _, l := range lists {
		all = append(all, order(l...))
	}
	return all
}

// goesOver says that seq goes over just these, each time.
func goesOver(t *testing.T, seq iter.Seq[api.Entry], want ...api.Entry) {
	t.Helper()
	for range 2 {
		if got := slices.Collect(seq); !slices.EqualFunc(got, want, ikey.Same) {
			t.Fatalf("goes over %s, want %s", tell(got...), tell(want...))
		}
	}
}

// shows says that seq goes over just these pairs, each time.
func shows(t *testing.T, seq iter.Seq[api.Pair], want ...api.Pair) {
	t.Helper()
	for range 2 {
		if got := slices.Collect(seq); !slices.EqualFunc(got, want, samePair) {
			t.Fatalf("goes over %s, want %s", tellPairs(got), tellPairs(want))
		}
	}
}

func samePair(a, b api.Pair) bool {
	return slices.Equal(a.Key, b.Key) && slices.Equal(a.Value, b.Value)
}

// spoil writes over all of some bytes, and behind them.
func spoil(bytes ...[]byte) {
	for _, b := range bytes {
		for i := range b {
			b[i] = '!'
		}
		_ = append(b, "!!!!!!!!"...)
	}
}

// some are n entries of few keys and numbers, as they come, by a rule that hangs on seed.
func some(n int, seed uint32) []api.Entry {
	x := seed*2654435761 + 1
	next := func(most uint32) uint32 {
		x = x*1664525 + 1013904223
		return x >> 16 % most
	}
	var l []api.Entry
	for range n {
		key := []string{"a", "ab", "b", "a\x00", "\xff"}[next(5)]
		seq := int64(1 + next(6))
		if next(3) == 0 {
			l = append(l, del(key, seq))
		} else {
			l = append(l, put(key, seq, strconv.Itoa(int(next(90)))))
		}
	}
	return l
}

// rising are at most n entries of few keys and numbers in order.
func rising(n int, seed uint32) []api.Entry {
	return slices.CompactFunc(ikey.Sort(some(n, seed)...), samePlace)
}

func samePlace(a, b api.Entry) bool {
	return string(a.Key) == string(b.Key) && a.Seq == b.Seq
}

// joined is what Join goes over, of orders, as the chapter's words have it: for each place that any has, the entry of the first that has it.
func joined(lists ...[]api.Entry) []api.Entry {
	var l []api.Entry
	for _, list := range lists {
		for _, e := range list {
			if !slices.ContainsFunc(l, func(other api.Entry) bool { return samePlace(e, other) }) {
				l = append(l, e)
			}
		}
	}
	slices.SortFunc(l, ikey.Compare)
	return l
}

// drawn is what Join goes over, of any lists: at each time the least first entry of all, of several the first list's; what then stands first in its place is passed.
func drawn(lists ...[]api.Entry) []api.Entry {
	var l []api.Entry
	rest := slices.Clone(lists)
	for {
		rest = slices.DeleteFunc(rest, func(list []api.Entry) bool { return len(list) == 0 })
		if len(rest) == 0 {
			return l
		}
		e := rest[0][0]
		for _, list := range rest {
			if ikey.Compare(list[0], e) < 0 {
				e = list[0]
			}
		}
		l = append(l, e)
		for i := range rest {
			for len(rest[i]) > 0 && samePlace(rest[i][0], e) {
				rest[i] = rest[i][1:]
			}
		}
	}
}

// seenOf is which entry of the key is seen at seq, and whether there is one, as the chapter's words have it.
func seenOf(l []api.Entry, key string, seq int64) (api.Entry, bool) {
	var best api.Entry
	is := false
	for _, e := range l {
		if string(e.Key) == key && e.Seq <= seq && (!is || e.Seq > best.Seq) {
			best, is = e, true
		}
	}
	return best, is
}

// kept is what Keep goes over, of an order, as the chapter's words have it.
func kept(l []api.Entry, floor int64, bottom bool) []api.Entry {
	var k []api.Entry
	for _, e := range l {
		one, _ := seenOf(l, string(e.Key), floor)
		if e.Seq > floor || e.Seq == one.Seq && !(bottom && e.Kind == api.KindDelete) {
			k = append(k, e)
		}
	}
	return k
}

// pairsAt are what Seen goes over, of an order, as the chapter's words have it.
func pairsAt(l []api.Entry, seq int64) []api.Pair {
	var pairs []api.Pair
	for i, e := range l {
		if i > 0 && string(l[i-1].Key) == string(e.Key) {
			continue
		}
		if one, is := seenOf(l, string(e.Key), seq); is && one.Kind != api.KindDelete {
			pairs = append(pairs, api.Pair{Key: one.Key, Value: one.Value})
		}
	}
	return pairs
}
