package ikey_test

import (
	"iter"
	"math"
	"slices"
	"testing"

	"hectare/api"
	"hectare/ikey"
)

// over gathers what seq goes over.
func over(seq iter.Seq[api.Entry]) []api.Entry {
	var l []api.Entry
	for e := range seq {
		l = append(l, e)
	}
	return l
}

func tellAll(l []api.Entry) string {
	s := ""
	for _, e := range l {
		s += tell(e)
	}
	return s
}

// goesOver says that seq goes over just these, each time.
func goesOver(t *testing.T, seq iter.Seq[api.Entry], want ...api.Entry) {
	t.Helper()
	for range 2 {
		if got := over(seq); !slices.EqualFunc(got, want, ikey.Same) {
			t.Fatalf("goes over %s, want %s", tellAll(got), tellAll(want))
		}
	}
}

// some is a list of n entries, by a rule: few keys, and few numbers.
func some(n int, rule uint32) []api.Entry {
	x := rule*2654435761 + 1
	next := func(most uint32) uint32 {
		x = x*1664525 + 1013904223
		return x >> 16 % most
	}
	var l []api.Entry
	for range n {
		key := []string{"a", "ab", "b", "a\x00", "\xff"}[next(5)]
		if next(3) == 0 {
			l = append(l, del(key, int64(1+next(6))))
		} else {
			l = append(l, put(key, int64(1+next(6)), number(int64(next(90)))))
		}
	}
	return l
}

// P5.3: do they rise?
func TestRising(t *testing.T) {
	for _, x := range []struct {
		l    []api.Entry
		want bool
	}{
		{nil, true}, {[]api.Entry{}, true}, {[]api.Entry{put("a", 5, "x")}, true},
		{[]api.Entry{put("a", 7, ""), put("a", 5, "")}, true}, {[]api.Entry{put("a", 5, ""), put("a", 7, "")}, false}, {[]api.Entry{put("a", 5, ""), put("b", 7, "")}, true},
		{[]api.Entry{put("b", 7, ""), put("a", 5, "")}, false}, {[]api.Entry{put("a", 5, "x"), del("a", 5)}, false}, {[]api.Entry{put("a", 5, "x"), put("a", 5, "y")}, false},
		{[]api.Entry{put("a", 5, "y"), put("a", 5, "x")}, false}, {[]api.Entry{del("a", 5), del("a", 5)}, false},
		{[]api.Entry{put("a", 1, ""), put("a\x00", api.MaxNumber, ""), put("aa", 1, ""), put("b", 1, "")}, true}, {[]api.Entry{put("aa", 1, ""), put("a", 1, "")}, false},
		{[]api.Entry{put("a", 3, ""), put("a", 2, ""), put("a", 1, ""), put("b", 3, ""), put("b", 2, ""), put("b", 2, "")}, false},
		{[]api.Entry{put("a", 3, ""), put("a", 2, ""), put("a", 1, ""), put("b", 3, ""), put("b", 2, ""), put("b", 1, "")}, true},
		{[]api.Entry{put("a", 2, ""), put("a", 3, ""), put("a", 1, ""), put("b", 3, "")}, false},
	} {
		if got := ikey.Rising(x.l...); got != x.want {
			t.Errorf("Rising %s: %v", tellAll(x.l), got)
		}
	}
}

// P5.3: what may not be does not rise, wherever it stands.
func TestRisingOfWhatMayNotBe(t *testing.T) {
	for _, bad := range bads() {
		if ikey.Rising(bad) {
			t.Errorf("Rising %s", tell(bad))
		}
		l := []api.Entry{bad, put("\x00", api.MaxNumber, ""), put("b", 5, ""), put("\xff", 1, "")}
		slices.SortStableFunc(l, ikey.Compare)
		if ikey.Rising(l...) {
			t.Errorf("Rising %s", tellAll(l))
		}
	}
}

// P5.3: Sort of many lists, held against a model: each entry's place is how many are ahead of it, and how many of its place stood ahead.
func TestSort(t *testing.T) {
	for n := range uint32(300) {
		l := some(int(n%60), n)
		want := make([]api.Entry, len(l))
		for i, e := range l {
			at := 0
			for j, other := range l {
				if c := ikey.Compare(other, e); c < 0 || c == 0 && j < i {
					at++
				}
			}
			want[at] = e
		}
		was := tellAll(l)
		if got := ikey.Sort(l...); !slices.EqualFunc(got, want, ikey.Same) {
			t.Fatalf("Sort of %s: %s, want %s", was, tellAll(got), tellAll(want))
		}
		if tellAll(l) != was {
			t.Fatalf("Sort changes %s to %s", was, tellAll(l))
		}
	}
}

// P5.3: those of one place stay as they stood, also among many; what may not be is sorted, too.
func TestSortStays(t *testing.T) {
	var l []api.Entry
	for i := range int64(3000) {
		l = append(l, put("k", 1+i%3, number(i)))
	}
	sorted := ikey.Sort(l...)
	for i, e := range sorted {
		at := int64(i%1000)*3 + int64(2-i/1000)
		if e.Seq != int64(3-i/1000) || string(e.Value) != number(at) {
			t.Fatalf("the place %d has %s", i, tell(e))
		}
	}
	l = []api.Entry{put("b", -1, ""), put("b", math.MaxInt64, ""), put("b", math.MinInt64, ""), of("b", 0, 9, "x"), {}, put(long(40), 5, "")}
	want := []api.Entry{{}, put("b", math.MaxInt64, ""), of("b", 0, 9, "x"), put("b", -1, ""), put("b", math.MinInt64, ""), put(long(40), 5, "")}
	if got := ikey.Sort(l...); !slices.EqualFunc(got, want, ikey.Same) {
		t.Errorf("Sort: %s, want %s", tellAll(got), tellAll(want))
	}
	if l := ikey.Sort(); len(l) != 0 {
		t.Errorf("Sort of nothing: %s", tellAll(l))
	}
}

// P5.3: what Sort answers is new memory.
func TestSortIsNewMemory(t *testing.T) {
	room := []byte("bacdefgh")
	e := api.Entry{Key: room[:2], Seq: 5, Kind: api.KindPut, Value: room[2:4]}
	l := []api.Entry{e, e, put("a", 5, "")}
	got := ikey.Sort(l...)
	spoil(got[1])
	if !ikey.Same(got[2], put("ba", 5, "cd")) || string(room) != "bacdefgh" {
		t.Errorf("what Sort answers shares memory: %s, %q", tell(got[2]), room)
	}
	clear(room)
	got[0] = api.Entry{}
	if !ikey.Same(got[2], put("ba", 5, "cd")) || !ikey.Same(l[2], put("a", 5, "")) {
		t.Errorf("what Sort answers is what was handed in: %s, %s", tell(got[2]), tell(l[2]))
	}
}

// P5.3: what is seen at each number: the first of each key that is no younger, puts and deletes.
func TestLatest(t *testing.T) {
	l := []api.Entry{put("a", 7, "x"), del("a", 5), put("a", 2, "y"), put("ab", 6, "z"), del("b", 9), put("b", 4, ""), put("b", 1, "w")}
	for _, x := range []struct {
		seq  int64
		want []api.Entry
	}{
		{math.MinInt64, nil}, {-1, nil}, {0, nil}, {1, l[6:7]}, {2, []api.Entry{l[2], l[6]}}, {3, []api.Entry{l[2], l[6]}}, {4, []api.Entry{l[2], l[5]}}, {5, []api.Entry{l[1], l[5]}},
		{6, []api.Entry{l[1], l[3], l[5]}}, {7, []api.Entry{l[0], l[3], l[5]}}, {8, []api.Entry{l[0], l[3], l[5]}}, {9, []api.Entry{l[0], l[3], l[4]}},
		{10, []api.Entry{l[0], l[3], l[4]}}, {api.MaxNumber, []api.Entry{l[0], l[3], l[4]}}, {math.MaxInt64, []api.Entry{l[0], l[3], l[4]}},
	} {
		goesOver(t, ikey.Latest(l, x.seq), x.want...)
	}
	for _, none := range [][]api.Entry{nil, {}} {
		goesOver(t, ikey.Latest(none, 5))
	}
	goesOver(t, ikey.Latest(l[:1], 7), l[0])
	goesOver(t, ikey.Latest(l[:1], 6))
}

// P5.3: just what stands ahead of the first entry that does not rise.
func TestLatestEndsWhereTheyDoNotRise(t *testing.T) {
	l := []api.Entry{put("a", 7, ""), put("a", 5, ""), put("b", 9, ""), put("b", 4, ""), put("d", 3, "")}
	for i, odd := range []api.Entry{put("a", 8, ""), put("a", 5, "z"), put("a", 1, ""), put("b", 9, ""), put("c", 1, "")} {
		at := i + 1
		all := slices.Insert(slices.Clone(l), at, odd)
		for seq := range int64(11) {
			goesOver(t, ikey.Latest(all, seq), over(ikey.Latest(l[:at], seq))...)
		}
	}
	goesOver(t, ikey.Latest([]api.Entry{put("a", 5, "x"), del("a", 5), put("b", 5, "")}, 9), put("a", 5, "x"))
	goesOver(t, ikey.Latest([]api.Entry{put("a", 8, "x"), del("a", 9), put("b", 5, "")}, 5))
	goesOver(t, ikey.Latest([]api.Entry{put("b", 5, "x"), put("a", 5, ""), put("c", 5, "")}, 5), put("b", 5, "x"))
}

// seen is what Latest goes over, as the chapter's words have it.
func seen(l []api.Entry, seq int64) []api.Entry {
	var told []api.Entry
	keys := map[string]int{}
	for i, e := range l {
		if i > 0 && ikey.Compare(l[i-1], e) != -1 {
			break
		}
		if keys[string(e.Key)] == 0 && e.Seq <= seq {
			keys[string(e.Key)] = 1
			told = append(told, e)
		}
	}
	return told
}

// P5.3: Latest of many lists, held against a model, up to where they are sorted, and as they stand.
func TestLatestOfMany(t *testing.T) {
	for n := range uint32(400) {
		l := some(int(n%30), n)
		sorted := ikey.Sort(l...)
		rising := slices.CompactFunc(ikey.Sort(l...), func(a, b api.Entry) bool { return ikey.Compare(a, b) == 0 })
		for seq := range int64(8) {
			for _, l := range [][]api.Entry{l, sorted, rising} {
				was := tellAll(l)
				goesOver(t, ikey.Latest(l, seq), seen(l, seq)...)
				if tellAll(l) != was {
					t.Fatalf("Latest changes %s to %s", was, tellAll(l))
				}
			}
		}
	}
}

// P5.3: Latest may be left at any time, and gone through again, also within itself.
func TestLatestIsLeftAndGoneThroughAgain(t *testing.T) {
	l := []api.Entry{put("a", 7, "x"), del("a", 5), put("b", 4, ""), del("c", 6)}
	want := []api.Entry{l[1], l[2], l[3]}
	latest := ikey.Latest(l, 6)
	for most := range 4 {
		var got []api.Entry
		for e := range latest {
			if len(got) == most {
				break
			}
			got = append(got, e)
		}
		if !slices.EqualFunc(got, want[:most], ikey.Same) {
			t.Errorf("the first %d: %s", most, tellAll(got))
		}
	}
	at := 0
	for e := range latest {
		goesOver(t, latest, want...)
		if !ikey.Same(e, want[at]) {
			t.Errorf("the entry %d: %s", at, tell(e))
		}
		at++
	}
}

// P5.3: entries are told as they were, whatever becomes of those that were handed in, or were told.
func TestLatestIsNewMemory(t *testing.T) {
	hand := func() []api.Entry {
		return []api.Entry{put("a", 7, "x"), del("a", 5), put("b", 4, "yz"), del("c", 6)}
	}
	want := []api.Entry{del("a", 5), put("b", 4, "yz"), del("c", 6)}
	l := hand()
	latest := ikey.Latest(l, 6)
	for e := range latest { // by the way
		spoil(l...)
		clear(l)
		spoil(e)
	}
	goesOver(t, latest, want...)
	l = hand()
	latest = ikey.Latest(l, 6)
	for e := range latest {
		spoil(e)
	}
	if !slices.EqualFunc(l, hand(), ikey.Same) {
		t.Errorf("what Latest tells is the caller's memory: %s", tellAll(l))
	}
	clear(l) // ahead of another going over
	goesOver(t, latest, want...)
}
