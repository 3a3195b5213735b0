package table_test

import (
	"slices"
	"testing"

	"hectare/api"
	"hectare/table"
)

// within are the entries whose keys are from from on, and, if end, below to.
func within(l []api.Entry, from, to string, end bool) []api.Entry {
	var some []api.Entry
	for _, e := range l {
		if key := string(e.Key); key >= from && (!end || key < to) {
			some = append(some, e)
		}
	}
	return some
}

// clipIs says that a view has just these entries, and is that table's.
func clipIs(t *testing.T, view, at *table.Table, l []api.Entry) {
	t.Helper()
	has(t, view, l)
	if !slices.Equal(view.Bytes(), at.Bytes()) || view.Blocks() != at.Blocks() {
		t.Fatalf("%d bytes, %d blocks", len(view.Bytes()), view.Blocks())
	}
}

// stays says that a table of these entries is still as it was.
func stays(t *testing.T, at *table.Table, l []api.Entry) {
	t.Helper()
	has(t, at, l)
	if !slices.Equal(at.Bytes(), written(t, l...)) || at.Blocks() != len(fill(l)) {
		t.Fatalf("%d bytes, %d blocks", len(at.Bytes()), at.Blocks())
	}
}

// P9.4: all views of a table of few entries, from each key and to each key beside them, and what is told in these.
func TestClip(t *testing.T) {
	l := list(put("b", 7, "x"), del("b", 5), put("bb", 3, long(510)), put("c", 9, long(300)), put("c", 8, long(300)), del("c", 2), put("e", 1, ""), put("f", 1, ""))
	at := opened(t, l...)
	keys := []string{"", "a", "b", "b\x00", "bb", "bc", "c", "c\x00", "d", "e", "f", "f\x00", "g", "\xff"}
	for _, low := range keys {
		for _, high := range keys {
			for _, end := range []bool{false, true} {
				some := within(l, low, high, end)
				c := at.Clip([]byte(low), []byte(high), end)
				clipIs(t, c, at, some)
				for _, key := range keys {
					in := key >= low && (!end || key < high)
					if got, want := c.May([]byte(key)), in && at.May([]byte(key)); got != want {
						t.Fatalf("Clip(%q, %q, %v): May(%q): %v", low, high, end, key, got)
					}
					gets(t, c, some, key, []int64{0, 1, 2, 4, 5, 6, 7, 8, 9, 10})
					if got := over(c.From([]byte(key))); !same(got, from(some, key)) {
						t.Fatalf("Clip(%q, %q, %v): From(%q): %s", low, high, end, key, tellAll(got))
					}
				}
			}
		}
	}
	stays(t, at, l)
}

// P9.4: a view of a view is what is within both, however they lie.
func TestClipOfClip(t *testing.T) {
	l := list(put("b", 7, long(300)), put("c", 9, long(300)), del("c", 2), put("e", 1, ""))
	at := opened(t, l...)
	keys := []string{"", "b", "b\x00", "c", "d", "f"}
	for _, low := range keys {
		for _, high := range keys {
			for _, end := range []bool{false, true} {
				some := within(l, low, high, end)
				one := at.Clip([]byte(low), []byte(high), end)
				for _, from := range keys {
					for _, to := range keys {
						for _, ends := range []bool{false, true} {
							both := within(some, from, to, ends)
							clipIs(t, one.Clip([]byte(from), []byte(to), ends), at, both)
						}
					}
				}
				clipIs(t, one, at, some) // as it was
			}
		}
	}
	stays(t, at, l)
}

// P9.4: views of tables of many entries.
func TestClipOfMany(t *testing.T) {
	for _, l := range [][]api.Entry{many(150), some(90, 7), slices.Concat(versions("a", 40, 40), versions("b", 40, 40), versions("ba", 1, 0))} {
		at := opened(t, l...)
		keys := each(keysBy(l), 1+len(keysBy(l))/20)
		for i, low := range keys {
			for j, high := range keys {
				some := within(l, low, high, true)
				clipIs(t, at.Clip([]byte(low), []byte(high), true), at, some)
				key := keys[(i+j)%len(keys)]
				clipIs(t, at.Clip([]byte(low), nil, false).Clip(nil, []byte(high), true).Clip([]byte(key), nil, false), at, from(some, key))
			}
		}
	}
}

// P9.4: a view that has nothing.
func TestEmptyView(t *testing.T) {
	l := many(60)
	at := opened(t, l...)
	for _, c := range []*table.Table{
		at.Clip(nil, nil, true), at.Clip(nil, []byte("a"), true), at.Clip([]byte("z"), nil, false), at.Clip(l[9].Key, l[9].Key, true), at.Clip(l[40].Key, l[9].Key, true),
		at.Clip(nil, l[9].Key, true).Clip(l[9].Key, nil, false), at.Clip([]byte("z"), nil, false).Clip(nil, nil, false), at.Clip(nil, nil, true).Clip(nil, nil, false), at.Clip(nil, nil, true).Clip(nil, []byte("z"), true),
	} {
		clipIs(t, c, at, nil)
		for _, e := range l {
			if got, no := c.Get(e.Key, e.Seq); !zero(got) || no != api.ErrNone || c.May(e.Key) {
				t.Fatalf("Get(%s): %s, %v, May %v", tell(e), tell(got), no, c.May(e.Key))
			}
		}
		if got := over(c.From(l[9].Key)); got != nil {
			t.Fatalf("From: %s", tellAll(got))
		}
	}
}

// P9.4: keys that are handed in are not kept, nor are Bytes' shared.
func TestClipKeepsNothing(t *testing.T) {
	l := many(60)
	at := opened(t, l...)
	low, high := slices.Clone(l[9].Key), slices.Clone(l[40].Key)
	c := at.Clip(low, high, true)
	want := within(l, string(low), string(high), true)
	all := c.All()
	clear(low)
	clear(high)
	clipIs(t, c, at, want)
	b := c.Bytes()
	clear(b)
	clipIs(t, c, at, want)
	stays(t, at, l)
	c.Clip(nil, nil, true)
	if got := over(all); !same(got, want) {
		t.Errorf("%s", tellAll(got))
	}
}
