package skip_test

import (
	"math"
	"slices"
	"testing"

	"hectare/api"
	"hectare/ikey"
	"hectare/skip"
)

// some are entries in order, with towers of many heights.
func some() []api.Entry {
	return []api.Entry{
		put("\x00", 9, ""), put("a", 100, "v"), del("a", 36), put("a", 20, "x"), put("a", 8, "w"), put("a", 4, "u"), del("a", 2), put("a\x00", 5, "y"), put("aa", 7, "z"), put("ab", 1, ""),
		put("b", api.MaxNumber, "q"), put("b", 12, "r"), del("b", 1), put("ba", 3, "s"), del(long(32), 6), put("\xff", 2, "t"),
	}
}

// spoil writes over all of an entry, and behind it.
func spoil(e api.Entry) {
	for _, b := range [][]byte{e.Key, e.Value} {
		for i := range b {
			b[i] = '!'
		}
		_ = append(b, "!!!!!!!!"...)
	}
}

// seen is what Get answers of these entries, as the chapter's words have it.
func seen(l []api.Entry, key string, seq int64) (api.Entry, api.Errno) {
	var best api.Entry
	no := api.ErrNone
	for _, e := range l {
		if string(e.Key) == key && e.Seq <= seq && e.Seq > best.Seq {
			best, no = e, api.OK
		}
	}
	return best, no
}

// keys are some that are there, are beginnings of these, or stand between them, ahead of, or behind them; also ones that no entry has.
func keys() []string {
	return []string{"", "\x00", "\x00\x00", "A", "a", "a\x00", "a\x00\x00", "a\x01", "aa", "aaa", "ab", "ac", "b", "b\x00", "ba", "bb", "c", long(31), long(32), long(33), "\xfe", "\xff", "\xff\x00", "\xff\xff", long(70000)}
}

// P6.2: of the key the entry with the greatest number that is at most seq, deletes too.
func TestGet(t *testing.T) {
	l := some()
	list := made(t, l...)
	for _, key := range keys() {
		seqs := []int64{math.MinInt64, -1, 0, math.MaxInt64, math.MaxInt64 - 1, api.MaxNumber - 1, api.MaxNumber, api.MaxNumber + 1, 1 << 32}
		for seq := range int64(110) {
			seqs = append(seqs, seq)
		}
		for _, seq := range seqs {
			got, no := list.Get([]byte(key), seq)
			want, wrong := seen(l, key, seq)
			if !ikey.Same(got, want) || no != wrong {
				t.Fatalf("Get(%.9q, %d): %s, %v, want %s, %v", key, seq, tell(got), no, tell(want), wrong)
			}
		}
	}
	if got, no := list.Get(nil, 5); !ikey.Same(got, api.Entry{}) || no != api.ErrNone {
		t.Errorf("Get of no key: %s, %v", tell(got), no)
	}
	holds(t, list, l...)
}

// P6.2: of nil, and of a zero one.
func TestGetOfNil(t *testing.T) {
	for _, none := range nils() {
		for _, key := range keys() {
			if e, no := none.Get([]byte(key), 5); !ikey.Same(e, api.Entry{}) || no != api.ErrNil {
				t.Errorf("Get(%.9q) of nil: %s, %v", key, tell(e), no)
			}
		}
	}
}

// P6.2: what Get answers is the caller's; the key that is handed in is not changed.
func TestGetIsNewMemory(t *testing.T) {
	l := some()
	list := made(t, l...)
	for _, e := range l {
		key := slices.Clone(e.Key)
		got, no := list.Get(key, e.Seq)
		if no != api.OK || !ikey.Same(got, e) || !slices.Equal(key, e.Key) {
			t.Fatalf("Get %s: %s, %v", tell(e), tell(got), no)
		}
		spoil(got)
		if !slices.Equal(key, e.Key) {
			t.Fatalf("what Get answers is the key that was handed in: %q", key)
		}
	}
	holds(t, list, l...)
}

// P6.3: from each key on, also from one that no entry can have.
func TestFrom(t *testing.T) {
	l := some()
	list := made(t, l...)
	for _, key := range keys() {
		var want []api.Entry
		for _, e := range l {
			if string(e.Key) >= key {
				want = append(want, e)
			}
		}
		goesOver(t, list.From([]byte(key)), want...)
	}
	goesOver(t, list.From(nil), l...)
	goesOver(t, skip.New().From(nil))
	goesOver(t, skip.New().From([]byte("a")))
}

// P6.3: the key that is handed in is not changed, and may be changed ahead of any going over, and by the way.
func TestFromKeepsItsKey(t *testing.T) {
	l := some()
	list := made(t, l...)
	key := []byte("b")
	all := list.From(key)
	if string(key) != "b" {
		t.Errorf("the key is changed: %q", key)
	}
	key[0] = '\x00'
	goesOver(t, all, l[10:]...)
	n := 0
	for range all {
		key[0] = '\xff'
		n++
	}
	if n != len(l)-10 {
		t.Errorf("goes over %d, want %d", n, len(l)-10)
	}
}

// P6.3: the entries of each level are those whose towers are higher; of levels that are not there are none.
func TestLevel(t *testing.T) {
	want := [][]api.Entry{
		{put("a", 25469, ""), put("a", 8324, ""), put("a", 1937, ""), put("a", 100, ""), del("a", 36), put("a", 8, ""), put("a", 5, ""), put("a", 4, ""), put("b", 1, "")},
		{put("a", 25469, ""), put("a", 8324, ""), put("a", 1937, ""), put("a", 100, ""), del("a", 36), put("a", 8, ""), put("a", 4, "")},
		{put("a", 25469, ""), put("a", 8324, ""), put("a", 1937, ""), put("a", 100, ""), del("a", 36), put("a", 4, "")},
		{put("a", 25469, ""), put("a", 8324, ""), put("a", 1937, ""), put("a", 100, ""), del("a", 36)},
		{put("a", 25469, ""), put("a", 8324, ""), put("a", 1937, ""), del("a", 36)},
		{put("a", 25469, ""), put("a", 8324, ""), put("a", 1937, "")},
		{put("a", 25469, ""), put("a", 8324, "")},
		{put("a", 25469, "")},
	}
	list := made(t, want[0]...)
	for n, l := range want {
		goesOver(t, list.Level(n), l...)
	}
	for _, n := range []int{-1, -2, math.MinInt, api.MaxHeight, api.MaxHeight + 1, 64, math.MaxInt} {
		goesOver(t, list.Level(n))
		goesOver(t, skip.New().Level(n))
	}
}

// P6.3: of nil, and of a zero one, nothing.
func TestLooksOfNil(t *testing.T) {
	for _, none := range nils() {
		for _, key := range keys() {
			goesOver(t, none.From([]byte(key)))
		}
		for _, n := range []int{math.MinInt, -1, 0, 1, 7, 8, math.MaxInt} {
			goesOver(t, none.Level(n))
		}
		if none.Len() != 0 || none.Bytes() != 0 || none.Copy() != nil {
			t.Errorf("of nil: %d, %d, %v", none.Len(), none.Bytes(), none.Copy())
		}
	}
}

// P6.3: both may be left at any time, and gone through again, also within themselves.
func TestLeftAndGoneThroughAgain(t *testing.T) {
	l := some()
	list := made(t, l...)
	high := over(list.Level(1))
	from, level := list.From([]byte("a\x00")), list.Level(1)
	for most := range 10 {
		for _, x := range []struct {
			all  func(func(api.Entry) bool)
			want []api.Entry
		}{{from, l[7:]}, {level, high}} {
			var got []api.Entry
			for e := range x.all {
				if len(got) == most {
					break
				}
				got = append(got, e)
			}
			if want := x.want[:min(most, len(x.want))]; !slices.EqualFunc(got, want, ikey.Same) {
				t.Errorf("the first %d: %s, want %s", most, tellAll(got), tellAll(want))
			}
		}
	}
	at := 7
	for e := range from {
		goesOver(t, from, l[7:]...)
		goesOver(t, level, high...)
		if !ikey.Same(e, l[at]) {
			t.Errorf("the entry %d: %s", at, tell(e))
		}
		at++
	}
}

// P6.3: entries are told as they are when it begins, whatever is put by the way; the next time as they are then.
func TestAsTheyAreWhenTheyBegin(t *testing.T) {
	old := []api.Entry{put("b", 36, "1"), put("d", 5, "2"), put("f", 4, "3")}
	list := made(t, old...)
	from, level := list.From([]byte("b")), list.Level(0)
	meanwhile := []api.Entry{put("a", 9, "4"), put("b", 100, "4"), put("b", 8, "5"), put("c", 5, "6"), put("e", 5, "7"), del("f", 1), put("g", 5, "8")}
	at := 0
	for e := range from {
		for _, more := range meanwhile[2*at : min(2*at+3, 7)] {
			list.Put(more)
		}
		if at == 0 {
			inner := 0
			for e := range level { // this one began later
				list.Put(put("h", int64(1+inner), ""))
				if !ikey.Same(e, []api.Entry{meanwhile[0], meanwhile[1], old[0], meanwhile[2], old[1], old[2]}[inner]) {
					t.Fatalf("the entry %d of the inner one: %s", inner, tell(e))
				}
				inner++
			}
			if inner != 6 {
				t.Fatalf("the inner one goes over %d", inner)
			}
		}
		if at == len(old) || !ikey.Same(e, old[at]) {
			t.Fatalf("the entry %d: %s", at, tell(e))
		}
		at++
	}
	if at != len(old) {
		t.Fatalf("goes over %d, want %d", at, len(old))
	}
	now := slices.Concat(old, meanwhile)
	for seq := range int64(6) {
		now = append(now, put("h", seq+1, ""))
	}
	now = ikey.Sort(now...)
	goesOver(t, from, now[1:]...)
	goesOver(t, level, now...)
	holds(t, list, now...)
}

// P6.3: what both tell is the caller's.
func TestWhatIsToldIsNewMemory(t *testing.T) {
	l := some()
	list := made(t, l...)
	for range 2 {
		for e := range list.From(nil) {
			spoil(e)
		}
		for n := range 8 {
			for e := range list.Level(n) {
				spoil(e)
			}
		}
	}
	holds(t, list, l...)
}

// P6.3: how many there are, and how many bytes these have; of what is refused nothing is added.
func TestLenAndBytes(t *testing.T) {
	list := skip.New()
	size := 0
	for i, x := range []struct {
		e    api.Entry
		want int
	}{
		{put("a", 5, ""), 5}, {del("a", 6), 4}, {put("a", 127, "xyz"), 8}, {put("a", 128, ""), 6}, {put(long(32), 5, ""), 36}, {put("b", api.MaxNumber, long(127)), 136},
		{put("b", 5, long(128)), 134}, {put("b", 6, long(65536)), 65543}, {del("c", 1<<28), 8},
	} {
		size += x.want
		if no := list.Put(x.e); no != api.OK || list.Len() != i+1 || list.Bytes() != size {
			t.Errorf("Put %s: %v, Len, Bytes: %d, %d, want %d, %d", tell(x.e), no, list.Len(), list.Bytes(), i+1, size)
		}
		if no := list.Put(x.e); no != api.ErrThere || list.Len() != i+1 || list.Bytes() != size {
			t.Errorf("Put %s again: %v, Len, Bytes: %d, %d, want %d, %d", tell(x.e), no, list.Len(), list.Bytes(), i+1, size)
		}
	}
}
