package merge_test

import (
	"math"
	"slices"
	"testing"

	"hectare/api"
	"hectare/ikey"
	"hectare/merge"
)

// floors are numbers below, at and above all that entries have here.
func floors() []int64 {
	return []int64{math.MinInt64, math.MinInt64 + 1, -1, 0, 1, 2, 3, 4, 5, 6, 7, 8, 9, 10, api.MaxNumber - 1, api.MaxNumber, api.MaxNumber + 1, 1 << 32, math.MaxInt64 - 1, math.MaxInt64}
}

// P11.2: what is needed by who reads at the number, or above.
func TestKeep(t *testing.T) {
	for _, x := range []struct {
		of     string
		floor  int64
		bottom bool
		want   string
	}{
		{"a6x a5 a1 b2 c3", 5, false, "a6x a5 b2 c3"}, {"a6x a5 a1 b2 c3", 9, true, "b2 c3"}, {"a6x a5 a1 b2 c3", 9, false, "a6x b2 c3"}, {"a6x a5 a1 b2 c3", 5, true, "a6x a5 b2 c3"},
		{"a6x a5 a1 b2 c3", 6, false, "a6x b2 c3"}, {"a6x a5 a1 b2 c3", 6, true, "b2 c3"}, {"a6x a5 a1 b2 c3", 4, true, "a6x a5 a1 b2 c3"}, {"a6x a5 a1 b2 c3", 0, true, "a6x a5 a1 b2 c3"},
		{"", 5, false, ""}, {"", 5, true, ""}, {"a5", 5, true, "a5"}, {"a5", 4, true, "a5"}, {"a5", 6, true, "a5"}, {"a5x", 5, false, "a5x"}, {"a5x", 5, true, ""}, {"a5x", 4, true, "a5x"}, {"a5x", 6, true, ""}, {"a5x", 6, false, "a5x"},
		{"a7 a5x a3", 7, true, "a7"}, {"a7 a5x a3", 6, true, "a7"}, {"a7 a5x a3", 6, false, "a7 a5x"}, {"a7 a5x a3", 5, true, "a7"}, {"a7 a5x a3", 4, true, "a7 a5x a3"}, {"a7 a5x a3", 2, true, "a7 a5x a3"},
		{"a7x a5x a3x", 5, true, "a7x"}, {"a7x a5x a3x", 5, false, "a7x a5x"}, {"a7x a5x a3x", 9, true, ""}, {"a7x a5x a3x", 2, true, "a7x a5x a3x"}, {"a7x a5x a3x", 3, true, "a7x a5x"},
		{"a5x aa4 b3x b2 c1x", 9, true, "aa4"}, {"a5x aa4 b3x b2 c1x", 2, true, "a5x aa4 b3x b2"}, {"a9 b8 b7 b6x c9x c5 d4 d3x d2", 6, true, "a9 b8 b7 c9x c5 d4"}, {"a9 b8 b7 b6x c9x c5 d4 d3x d2", 6, false, "a9 b8 b7 b6x c9x c5 d4"},
		{"a5 b5 c5", 5, true, "a5 b5 c5"}, {"a5 a4 b5 b4 c5 c4", 5, true, "a5 b5 c5"}, {"a5 a4 b5 b4 c5 c4", 4, true, "a5 a4 b5 b4 c5 c4"}, {"a5x a4 b5x b4", 5, true, ""}, {"a4 b5x b4 c4", 5, true, "a4 c4"},
	} {
		l := read(x.of)
		goesOver(t, merge.Keep(order(l...), x.floor, x.bottom), read(x.want)...)
		if tell(l...) != x.of {
			t.Errorf("Keep changes %s to %s", x.of, tell(l...))
		}
	}
}

// P11.2: at the edges of numbers.
func TestKeepAtTheEdges(t *testing.T) {
	all := []api.Entry{put("a", api.MaxNumber, "1"), del("a", api.MaxNumber-1), put("a", 1, "3"), del("b", api.MaxNumber), put("b", 1, "4")}
	for _, floor := range floors() {
		for _, bottom := range []bool{false, true} {
			goesOver(t, merge.Keep(order(all...), floor, bottom), kept(all, floor, bottom)...)
		}
	}
	goesOver(t, merge.Keep(order(all...), api.MaxNumber, true), all[0])
	goesOver(t, merge.Keep(order(all...), api.MaxNumber-1, true), all[0], all[3], all[4])
	goesOver(t, merge.Keep(order(all...), math.MinInt64, true), all...)
	goesOver(t, merge.Keep(order(all...), math.MaxInt64, false), all[0], all[3])
}

// P11.2, P11.3: of nil nothing.
func TestOfNil(t *testing.T) {
	for _, floor := range floors() {
		goesOver(t, merge.Keep(nil, floor, false))
		goesOver(t, merge.Keep(nil, floor, true))
		shows(t, merge.Seen(nil, floor))
	}
	goesOver(t, merge.Clip(nil, nil, nil, false))
	goesOver(t, merge.Clip(nil, []byte("a"), []byte("b"), true))
}

// P11.2: Keep of many orders, held against a model.
func TestKeepOfMany(t *testing.T) {
	for n := range uint32(500) {
		l := rising(int(n%40), n)
		was := tell(l...)
		for _, floor := range floors() {
			for _, bottom := range []bool{false, true} {
				goesOver(t, merge.Keep(order(l...), floor, bottom), kept(l, floor, bottom)...)
			}
		}
		if tell(l...) != was {
			t.Fatalf("Keep changes %s to %s", was, tell(l...))
		}
	}
}

// P11.2: entries that may not be; a kind that is none deletes nothing, no key is a key like others.
func TestKeepOfWhatMayNotBe(t *testing.T) {
	l := odd()
	slices.SortFunc(l, ikey.Compare)
	for _, floor := range append(floors(), -5) {
		for _, bottom := range []bool{false, true} {
			goesOver(t, merge.Keep(order(l...), floor, bottom), kept(l, floor, bottom)...)
		}
		shows(t, merge.Seen(order(l...), floor), pairsAt(l, floor)...)
	}
	l = []api.Entry{{Seq: 7, Kind: api.KindDelete}, {Seq: 5, Kind: api.KindPut}, {Seq: 3, Kind: api.KindPut}}
	goesOver(t, merge.Keep(order(l...), 5, true), l[:2]...)
	goesOver(t, merge.Keep(order(l...), 7, true))
	shows(t, merge.Seen(order(l...), 5), api.Pair{})
	shows(t, merge.Seen(order(l...), 7))
}

// P11.2, P11.3 (and the rules for all layers): they may be left at any time, and gone through as often as one likes, also within themselves; also of orders that have no end.
func TestAreLeftAndGoneThroughAgain(t *testing.T) {
	l := read("a7 a5x a4 b6x b3 b1 c5 c4 d2 e9x e8")
	isLeft(t, merge.Keep(order(l...), 5, false), read("a7 a5x b6x b3 c5 d2 e9x e8"))
	isLeft(t, merge.Keep(order(l...), 5, true), read("a7 b6x b3 c5 d2 e9x e8"))
	isLeft(t, merge.Clip(order(l...), []byte("b"), []byte("d"), true), read("b6x b3 b1 c5 c4"))
	isLeft(t, merge.Clip(order(l...), nil, nil, false), l)
	all := merge.Seen(order(l...), 5)
	want := pairsAt(l, 5)
	if tellPairs(want) != "b= c= d=" {
		t.Fatalf("seen at 5: %s", tellPairs(want))
	}
	for most := range len(want) + 1 {
		calls := 0
		all(func(p api.Pair) bool {
			if !samePair(p, want[calls]) {
				t.Errorf("the pair %d: %s", calls, tellPairs([]api.Pair{p}))
			}
			calls++
			shows(t, all, want...)
			return calls <= most
		})
		if calls != min(most+1, len(want)) {
			t.Errorf("left behind %d: called %d times", most, calls)
		}
	}
	for range merge.Keep(endless("a5"), 4, false) {
		break
	}
	for range merge.Clip(endless("a5 b5"), []byte("b"), nil, false) {
		break
	}
	for range merge.Seen(endless("a5 b5"), 5) {
		break
	}
}

// P11.2, P11.3 (and the rules for all layers): what they go over is the caller's, in new memory; what is handed in stays the caller's, and is not changed or kept.
func TestAreNewMemory(t *testing.T) {
	l := read("a7=1 a5=2 a4=3 b6x b3=4 b1=5 c5=6")
	was := tell(l...)
	for _, all := range [][]api.Entry{l, slices.Collect(stingy(l[:1]))} {
		isNew(t, merge.Keep(order(all...), 5, false), kept(all, 5, false))
		isNew(t, merge.Clip(order(all...), []byte("a"), []byte("z"), true), all)
	}
	isNew(t, merge.Keep(stingy(l), 5, true), kept(l, 5, true))
	isNew(t, merge.Keep(stingy(l), 9, true), kept(l, 9, true))
	isNew(t, merge.Clip(stingy(l), nil, nil, false), l)
	for range 2 {
		var got []api.Pair
		for p := range merge.Seen(order(l...), 5) {
			got = append(got, api.Pair{Key: slices.Clone(p.Key), Value: slices.Clone(p.Value)})
			spoil(p.Key, p.Value)
		}
		if tellPairs(got) != "a=2 b=4 c=6" {
			t.Errorf("goes over %s", tellPairs(got))
		}
	}
	shows(t, merge.Seen(stingy(l), 5), pairsAt(l, 5)...)
	if tell(l...) != was {
		t.Errorf("what is gone over is the caller's memory: %s", tell(l...))
	}
	from, to := []byte("ab"), []byte("cd")
	all := merge.Clip(order(read("a5 ab5 b5 c5 cd5 d5")...), from[:2], to[:2], true)
	for range 2 {
		goesOver(t, all, read("ab5 b5 c5")...)
		spoil(from, to)
	}
	for range merge.Clip(order(l...), from, to, true) {
		t.Error("from !! to !! there is something")
	}
	if string(from) != "!!" || string(to) != "!!" {
		t.Errorf("Clip changes its keys to %q, %q", from, to)
	}
}

// P11.3: what is seen at a number.
func TestSeen(t *testing.T) {
	for _, x := range []struct {
		of   string
		seq  int64
		want string
	}{
		{"a6x a5=1 a1=2 b2=3 c3=4", 5, "a=1 b=3 c=4"}, {"a6x a5=1 a1=2 b2=3 c3=4", 6, "b=3 c=4"}, {"a6x a5=1 a1=2 b2=3 c3=4", 4, "a=2 b=3 c=4"}, {"a6x a5=1 a1=2 b2=3 c3=4", 2, "a=2 b=3"}, {"a6x a5=1 a1=2 b2=3 c3=4", 1, "a=2"},
		{"a6x a5=1 a1=2 b2=3 c3=4", 0, ""}, {"a6x a5=1 a1=2 b2=3 c3=4", math.MinInt64, ""}, {"a6x a5=1 a1=2 b2=3 c3=4", math.MaxInt64, "b=3 c=4"}, {"", 5, ""}, {"a5=1", 5, "a=1"}, {"a5=1", 4, ""}, {"a5", 5, "a="}, {"a5x", 5, ""}, {"a5x", 4, ""},
		{"a5x a4=1", 5, ""}, {"a5x a4=1", 4, "a=1"}, {"a5=1 a4x", 5, "a=1"}, {"a5=1 a4x", 4, ""}, {"a5=1 a4x a3=2", 4, ""}, {"a5=1 a4x a3=2", 3, "a=2"}, {"a5=1 aa5=2 ab5=3 b5x b4=4", 5, "a=1 aa=2 ab=3"}, {"a9=1 b4=2 c9=3 d4=4", 5, "b=2 d=4"},
	} {
		l := read(x.of)
		for range 2 {
			if got := slices.Collect(merge.Seen(order(l...), x.seq)); tellPairs(got) != x.want {
				t.Errorf("Seen(%s, %d): %s, want %s", x.of, x.seq, tellPairs(got), x.want)
			}
		}
		if tell(l...) != x.of {
			t.Errorf("Seen changes %s to %s", x.of, tell(l...))
		}
	}
}

// P11.3: Seen of many orders, held against a model, and against what layer 5 says is latest.
func TestSeenOfMany(t *testing.T) {
	for n := range uint32(500) {
		l := rising(int(n%40), n)
		for _, seq := range floors() {
			shows(t, merge.Seen(order(l...), seq), pairsAt(l, seq)...)
			var latest []api.Pair
			for e := range ikey.Latest(l, seq) {
				if e.Kind == api.KindPut {
					latest = append(latest, api.Pair{Key: e.Key, Value: e.Value})
				}
			}
			shows(t, merge.Seen(order(l...), seq), latest...)
		}
	}
}

// P11.3: the entries of keys from one on, below another one, if there is an end.
func TestClip(t *testing.T) {
	l := "a6x a5 aa4 ab1 b7 b2x c3 d9"
	for _, x := range []struct {
		from, to string
		end      bool
		want     string
	}{
		{"", "", false, l}, {"", "", true, ""}, {"a", "", false, l}, {"a", "z", true, l}, {"aa", "", false, "aa4 ab1 b7 b2x c3 d9"}, {"aa", "", true, ""}, {"b", "", false, "b7 b2x c3 d9"}, {"b", "c", true, "b7 b2x"}, {"b", "c", false, "b7 b2x c3 d9"},
		{"b", "b", true, ""}, {"b", "b", false, "b7 b2x c3 d9"}, {"b", "b\x00", true, "b7 b2x"}, {"c", "b", true, ""}, {"c", "b", false, "c3 d9"}, {"a\x00", "b", true, "aa4 ab1"}, {"a", "a\x00", true, "a6x a5"}, {"", "a", true, ""}, {"", "aa", true, "a6x a5"},
		{"A", "b", true, "a6x a5 aa4 ab1"}, {"d", "", false, "d9"}, {"d\x00", "", false, ""}, {"d", "d\x00", true, "d9"}, {"\xff", "", false, ""}, {"", "\xff", true, l}, {"ab", "bb", true, "ab1 b7 b2x"}, {"a", "ab", true, "a6x a5 aa4"},
	} {
		goesOver(t, merge.Clip(order(read(l)...), []byte(x.from), []byte(x.to), x.end), read(x.want)...)
		goesOver(t, merge.Clip(order(), []byte(x.from), []byte(x.to), x.end))
	}
	goesOver(t, merge.Clip(order(read(l)...), nil, nil, false), read(l)...)
	goesOver(t, merge.Clip(order(read(l)...), nil, nil, true))
	goesOver(t, merge.Clip(order(read("b5 a5 c5 b5")...), []byte("b"), []byte("c"), true), read("b5 b5")...)
	goesOver(t, merge.Clip(order(odd()...), nil, []byte("a"), true), slices.DeleteFunc(odd(), func(e api.Entry) bool { return string(e.Key) >= "a" })...)
}

// P11.3: Clip of many orders at all keys, held against the words.
func TestClipOfMany(t *testing.T) {
	keys := []string{"", "\x00", "a", "a\x00", "a\x00\x00", "a\x01", "aa", "ab", "ab\x00", "b", "b\x00", "c", "\xfe", "\xff", "\xff\x00", "\xff\xff"}
	for n := range uint32(30) {
		l := rising(int(n), n)
		for _, from := range keys {
			for _, to := range keys {
				for _, end := range []bool{false, true} {
					want := slices.DeleteFunc(slices.Clone(l), func(e api.Entry) bool {
						return string(e.Key) < from || end && string(e.Key) >= to
					})
					goesOver(t, merge.Clip(order(l...), []byte(from), []byte(to), end), want...)
				}
			}
		}
	}
}
