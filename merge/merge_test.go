package merge_test

import (
	"iter"
	"math"
	"slices"
	"strconv"
	"testing"

	"hectare/api"
	"hectare/ikey"
	"hectare/merge"
)

// lists are what read takes of each text.
func lists(texts ...string) [][]api.Entry {
	var all [][]api.Entry
	for _, text := range texts {
		all = append(all, read(text))
	}
	return all
}

// joins says that Join goes over these, each time, and changes nothing.
func joins(t *testing.T, want []api.Entry, lists ...[]api.Entry) {
	t.Helper()
	all := orders(lists...)
	was := ""
	for _, l := range lists {
		was += tell(l...) + "; "
	}
	goesOver(t, merge.Join(all...), want...)
	is := ""
	for _, l := range lists {
		is += tell(l...) + "; "
	}
	if is != was {
		t.Fatalf("Join changes %s to %s", was, is)
	}
}

// P11.1: the entries of all orders, in order.
func TestJoin(t *testing.T) {
	for _, x := range []struct {
		want string
		of   []string
	}{
		{"a6x a5 a1 b2 c3", []string{"a5 b2", "a6x a1 c3"}}, {"a6x a5 a1 b2 c3", []string{"a6x a1 c3", "a5 b2"}},
		{"", nil}, {"", []string{""}}, {"", []string{"", "", ""}}, {"a5", []string{"a5"}}, {"a5", []string{"", "a5", ""}}, {"a5 b1x", []string{"a5 b1x", "", ""}},
		{"a7 a5 a3x a1", []string{"a5 a1", "a7 a3x"}}, {"a1 b2 c3 d4 e5", []string{"c3", "a1", "e5", "b2", "d4"}}, {"a1 b9 c1 d9", []string{"c1 d9", "a1 b9"}},
		{"a1 aa9 ab1 b9", []string{"aa9 b9", "a1 ab1"}}, {"a10 a9 a2 b1", []string{"a9 b1", "a10 a2"}}, {"a3=u a2=v a1=w", []string{"a1=w", "a2=v", "a3=u"}},
	} {
		joins(t, read(x.want), lists(x.of...)...)
	}
	goesOver(t, merge.Join())
}

// P11.1: of those of one key and number just that of the first order that has it.
func TestJoinOfOnePlace(t *testing.T) {
	for _, x := range []struct {
		want string
		of   []string
	}{
		{"a5=1", []string{"a5=1", "a5=2"}}, {"a5=2", []string{"a5=2", "a5=1"}}, {"a5=3", []string{"a5=3", "a5=1", "a5=2"}}, {"a5x", []string{"a5x", "a5=1"}}, {"a5=1", []string{"a5=1", "a5x"}},
		{"a5=1", []string{"", "a5=1", "", "a5=2", ""}}, {"a5=1 a4=2", []string{"a5=1", "a4=2"}}, {"a5=1 b5=2", []string{"a5=1", "b5=2"}},
		{"a5=1 b5=1 c5=1", []string{"a5=1 b5=1 c5=1", "a5=2 b5=2 c5=2", "a5=3 b5=3 c5=3"}}, {"a5=1 b5=2 c5=3", []string{"a5=1", "a5=2 b5=2", "a5=3 b5=3 c5=3"}},
		{"a5=2 b5=1 c5=2", []string{"b5=1", "a5=2 b5=2 c5=2"}}, {"a5=3 a4=2 a3=1 b1=1", []string{"a3=1 b1=1", "a4=2 a3=2", "a5=3 a4=3 a3=3"}},
	} {
		joins(t, read(x.want), lists(x.of...)...)
	}
	l := read("a5=1 b4 c3x")
	joins(t, l, l, l, l, l)
	one := order(l...)
	goesOver(t, merge.Join(one, one, merge.Join(one, one)), l...)
}

// P11.1: a nil one is one without entries, wherever it stands.
func TestJoinOfNil(t *testing.T) {
	goesOver(t, merge.Join(nil))
	goesOver(t, merge.Join(nil, nil))
	goesOver(t, merge.Join([]iter.Seq[api.Entry]{}...))
	a, b := order(read("a5=1 c5")...), order(read("a5=2 b5")...)
	for at := range 3 {
		goesOver(t, merge.Join(slices.Insert([]iter.Seq[api.Entry]{a, b}, at, nil)...), read("a5=1 b5 c5")...)
	}
}

// P11.1: of what is no order at each time the least first entry of all, of several the first order's; what then stands first in its place is passed.
func TestJoinOfNoOrders(t *testing.T) {
	for _, x := range []struct {
		want string
		of   []string
	}{
		{"b1 a1", []string{"b1 a1"}}, {"a1 a2", []string{"a1 a2"}}, {"b1 a1 c1", []string{"b1 a1", "c1"}}, {"b1 a1 c1", []string{"c1", "b1 a1"}}, {"a1 c1 b1", []string{"c1 b1", "a1"}},
		{"b1 c1 a1 d1", []string{"c1 a1", "b1 d1"}}, {"a2 a1 a3", []string{"a1 a3", "a2"}}, {"c1 b1 a1 d3 d2 d1", []string{"d3 d2 d1", "c1 b1 a1"}}, {"c2 b1 a1 c1 d1", []string{"c1 d1", "c2 b1 a1"}},
		{"a1=1 b1 a1=2", []string{"a1=1 b1 a1=2"}}, {"a1=2 b1 a1=1", []string{"b1 a1=1", "a1=2"}}, {"b1=1 a1=1 a2 c1", []string{"b1=1 a1=1 a2", "b1=2 a1=2 c1"}}, {"c1 b1 a1", []string{"c1 b1 a1", "c1 b1 a1"}},
		{"a1=1", []string{"a1=1 a1=2"}}, {"a1=1 b1", []string{"a1=1 a1=2 b1", "a1=3"}}, {"a1=1 b1", []string{"a1=1", "a1=2 a1=3 b1"}}, {"a1=1 b1=1 b2", []string{"b1=1 b2", "a1=1 b1=2"}},
	} {
		joins(t, read(x.want), lists(x.of...)...)
	}
}

// P11.1: Join of many orders, and of what is none, held against models.
func TestJoinOfMany(t *testing.T) {
	for n := range uint32(600) {
		var up, any [][]api.Entry
		for i := range n % 6 {
			up = append(up, rising(int(n+7*i)%23, n*31+i))
			any = append(any, some(int(n+5*i)%13, n*37+i))
		}
		joins(t, joined(up...), up...)
		joins(t, drawn(up...), up...)
		joins(t, drawn(any...), any...)
		joins(t, drawn(append(any, up...)...), append(any, up...)...)
	}
}

// P11.1: very many orders, some of them very long.
func TestJoinOfVeryMany(t *testing.T) {
	var all [][]api.Entry
	var want []api.Entry
	for i := range int64(2000) {
		want = append(want, put("k"+strconv.Itoa(int(10000+i)), 1+i%7, strconv.Itoa(int(i))))
	}
	for at := range want {
		all = append(all, want[len(want)-1-at:][:1])
	}
	joins(t, want, all...)
	parts := make([][]api.Entry, 5)
	for i, e := range want {
		parts[i*i%5] = append(parts[i*i%5], e)
	}
	joins(t, want, parts...)
}

// odd are entries in order of which many may not be: Compare holds any against each other.
func odd() []api.Entry {
	return []api.Entry{
		{Seq: math.MaxInt64}, {Kind: api.KindDelete, Value: []byte("x")}, {Seq: math.MinInt64, Kind: 7}, put("a", math.MaxInt64, ""), put("a", api.MaxNumber+1, "y"), del("a", 5),
		{Key: []byte("a"), Seq: 4, Kind: -1, Value: []byte("z")}, {Key: []byte("a"), Seq: 0, Kind: 9}, put("a", -5, "w"), put("a", math.MinInt64, ""), put(string(make([]byte, 1)), 0, ""),
		put(string(slices.Repeat([]byte("x"), 40)), 5, ""), put(string(slices.Repeat([]byte("x"), 70000)), 5, ""), put("y", 5, string(make([]byte, 70000))),
	}
}

// P11.1: entries that may not be are gone over, too.
func TestJoinOfWhatMayNotBe(t *testing.T) {
	l := odd()
	slices.SortFunc(l, ikey.Compare)
	joins(t, l, l)
	for at := range l {
		joins(t, l, l[at:], l[:at])
		joins(t, l, slices.Delete(slices.Clone(l), at, at+1), l[at:][:1], l)
	}
}

// P11.1 (and the rules for all layers): Join may be left at any time, and gone through as often as one likes, also within itself.
func TestJoinIsLeftAndGoneThroughAgain(t *testing.T) {
	want := read("a6x a5 a1 b2 c3")
	all := merge.Join(orders(lists("a5 b2", "a6x a1 b2=9 c3")...)...)
	isLeft(t, all, want)
}

// isLeft says that all may be left at any time, and gone through again, also within itself; a function that it is handed is not called any more when it said no.
func isLeft(t *testing.T, all iter.Seq[api.Entry], want []api.Entry) {
	t.Helper()
	for most := range len(want) + 1 {
		var got []api.Entry
		for e := range all {
			if len(got) == most {
				break
			}
			got = append(got, e)
		}
		if !slices.EqualFunc(got, want[:most], ikey.Same) {
			t.Errorf("the first %d: %s", most, tell(got...))
		}
		calls := 0
		all(func(api.Entry) bool {
			calls++
			return calls <= most
		})
		if calls != min(most+1, len(want)) {
			t.Errorf("left behind %d: called %d times", most, calls)
		}
	}
	at := 0
	for e := range all {
		goesOver(t, all, want...)
		if !ikey.Same(e, want[at]) {
			t.Errorf("the entry %d: %s", at, tell(e))
		}
		at++
	}
}

// stingy goes over these entries, each in the same memory as the one ahead.
func stingy(l []api.Entry) iter.Seq[api.Entry] {
	return func(yield func(api.Entry) bool) {
		key, value := make([]byte, 0, 99), make([]byte, 0, 99)
		for _, e := range l {
			key, value = append(key[:0], e.Key...), append(value[:0], e.Value...)
			if !yield(api.Entry{Key: key, Seq: e.Seq, Kind: e.Kind, Value: value}) {
				return
			}
		}
	}
}

// isNew says that what all goes over is new memory each time, and that nothing of it is asked again when it was told.
func isNew(t *testing.T, all iter.Seq[api.Entry], want []api.Entry) {
	t.Helper()
	for range 2 {
		at := 0
		for e := range all {
			if at >= len(want) || !ikey.Same(e, want[at]) {
				t.Fatalf("the entry %d: %s", at, tell(e))
			}
			spoil(e.Key, e.Value)
			at++
		}
		if at != len(want) {
			t.Fatalf("%d of %d", at, len(want))
		}
	}
}

// P11.1 (and the rules for all layers): what Join goes over is the caller's, in new memory; what is handed in stays the caller's, and is not changed or kept.
func TestJoinIsNewMemory(t *testing.T) {
	room := []byte("aabbccddeeff")
	of := func(key []byte, seq int64, value []byte) api.Entry {
		return api.Entry{Key: key, Seq: seq, Kind: api.KindPut, Value: value}
	}
	one := []api.Entry{of(room[:1], 5, room[1:2]), of(room[2:3], 5, room[3:4]), of(room[4:5], 5, room[:0])}
	two := []api.Entry{of(room[:1], 5, room[8:]), of(room[:1], 4, room[1:2]), of(room[2:3], 5, room[6:8])}
	want := read("a5=a a4=a b5=b c5")
	handed := orders(one, two)
	all := merge.Join(handed...)
	clear(handed)
	isNew(t, all, want)
	if string(room) != "aabbccddeeff" || handed[0] != nil || handed[1] != nil {
		t.Errorf("what is gone over is the caller's memory: %q", room)
	}
	isNew(t, merge.Join(stingy(one), stingy(two)), want)
	isNew(t, merge.Join(order(want...), order(want...), stingy(two)), want)
	if tell(want...) != "a5=a a4=a b5=b c5" {
		t.Errorf("what is gone over is the caller's memory: %s", tell(want...))
	}
}

// P11.1: each order is gone over once for each going over, to its end, and not ahead of it.
func TestJoinGoesOverOnce(t *testing.T) {
	times := 0
	all := merge.Join(func(yield func(api.Entry) bool) {
		times++
		for _, e := range read("a5 b5 c5") {
			if !yield(e) {
				return
			}
		}
	}, order(read("b4 d1")...))
	for want := range 4 {
		if times != want {
			t.Errorf("the order was gone over %d times, want %d", times, want)
		}
		if got := slices.Collect(all); tell(got...) != "a5 b5 b4 c5 d1" {
			t.Errorf("goes over %s", tell(got...))
		}
	}
}

// P11.3: is it an order?
func TestRising(t *testing.T) {
	for _, x := range []struct {
		text string
		want bool
	}{
		{"", true}, {"a5", true}, {"a5x", true}, {"a7 a5", true}, {"a5 a7", false}, {"a5 b7", true}, {"b7 a5", false}, {"a5 a5", false}, {"a5=1 a5=2", false}, {"a5=2 a5=1", false}, {"a5 a5x", false}, {"a5x a5", false}, {"a5x a5x", false},
		{"a6x a5 a1 b2 c3", true}, {"a6x a5 a1 b2 c3 c3", false}, {"a6x a6 a5 a1 b2 c3", false}, {"a6x a5 a5 a1 b2 c3", false}, {"a6x a5 a1 b2 b3 c3", false}, {"a6x a5 a1 c3 b2", false}, {"b2 a6x a5 a1 c3", false},
		{"a1 aa9 ab1 b9", true}, {"aa9 a1", false}, {"a5 b5 a4", false}, {"a5 b5 a5", false}, {"a10 a9", true}, {"a9 a10", false}, {"a1 a0 a-1 b-1", true}, {"a-1 a0", false},
	} {
		l := read(x.text)
		if got := merge.Rising(order(l...)); got != x.want || tell(l...) != x.text {
			t.Errorf("Rising(%s): %v", x.text, got)
		}
		if got := merge.Rising(stingy(l)); got != x.want {
			t.Errorf("Rising(%s), all in the same memory: %v", x.text, got)
		}
	}
	if !merge.Rising(nil) {
		t.Error("Rising(nil): false")
	}
	l := odd()
	slices.SortFunc(l, ikey.Compare)
	if !merge.Rising(order(l...)) {
		t.Errorf("Rising is false of what may not be, in order")
	}
}

// P11.3: Rising of many lists, held against the words: each one ahead of all behind it.
func TestRisingOfMany(t *testing.T) {
	yes := 0
	for n := range uint32(3000) {
		for _, l := range [][]api.Entry{some(int(n%5), n), rising(int(n%17), n), append(rising(int(n%9), n), some(1, n+1)...)} {
			want := true
			for i := range l {
				for _, e := range l[:i] {
					want = want && ikey.Compare(e, l[i]) < 0
				}
			}
			if got := merge.Rising(order(l...)); got != want {
				t.Fatalf("Rising(%s): %v", tell(l...), got)
			}
			if want {
				yes++
			}
		}
	}
	if yes < 3100 || yes > 8000 {
		t.Errorf("%d of 9000 rise", yes)
	}
}

// P11.3: an endless row of entries that does not rise is no order.
func TestRisingOfNoEnd(t *testing.T) {
	if merge.Rising(endless("b5 a5")) {
		t.Error("Rising: true")
	}
}

// endless goes over these entries, over and over, till it is left.
func endless(text string) iter.Seq[api.Entry] {
	return func(yield func(api.Entry) bool) {
		for l := read(text); ; {
			for _, e := range l {
				if !yield(e) {
					return
				}
			}
		}
	}
}
