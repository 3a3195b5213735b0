package edit_test

import (
	"math"
	"slices"
	"testing"

	"hectare/api"
	"hectare/edit"
)

// mayBe says whether a version may be, and that it stays as it was.
func mayBe(t *testing.T, v api.Version, want bool) {
	t.Helper()
	was := deep(v)
	if got := edit.May(v); got != want {
		t.Fatalf("May(%v): %v", v, got)
	}
	if !same(v, was) {
		t.Fatalf("May changes %v to %v", was, v)
	}
	if versionIs(v) != want {
		t.Fatalf("the model has %v otherwise", v)
	}
}

// far are numbers that are above all that may be, or below 0.
func far() []int64 {
	return []int64{api.MaxNumber + 1, 1 << 32, 1<<32 + 9, 1 << 62, math.MaxInt64 - 1, math.MaxInt64, -1, -1 << 31, -1<<32 + 9, math.MinInt64 + 1, math.MinInt64}
}

// P10.1: the empty version may be; a zero one has no next number.
func TestMayOfEmpty(t *testing.T) {
	mayBe(t, empty(), true)
	mayBe(t, api.Version{Next: 1, Tables: []api.TableAt{}}, true)
	mayBe(t, api.Version{}, false)
	mayBe(t, levels(), true)
}

// P10.1: the numbers of a version, at their edges.
func TestMayOfNumbers(t *testing.T) {
	const most = api.MaxNumber
	for _, x := range []struct {
		next, log, index, seq int64
		want                  bool
	}{
		{1, 0, 0, 0, true}, {0, 0, 0, 0, false}, {-1, -2, 0, 0, false}, {0, -1, 0, 0, false},
		{2, 1, 0, 0, true}, {1, 1, 0, 0, false}, {2, 2, 0, 0, false}, {2, 3, 0, 0, false}, {3, 1, 0, 0, true},
		{1, -1, 0, 0, false}, {1, 0, -1, 0, false}, {1, 0, 0, -1, false}, {1, 0, 1, 0, true}, {1, 0, 0, 1, true}, {1, 0, 5, 3, true},
		{most, 0, 0, 0, true}, {most, most - 1, most, most, true}, {most, most, 0, 0, false}, {most + 1, 0, 0, 0, false}, {most + 1, most, 0, 0, false},
		{1, 0, most, 0, true}, {1, 0, most + 1, 0, false}, {1, 0, 0, most, true}, {1, 0, 0, most + 1, false},
	} {
		mayBe(t, api.Version{Next: x.next, Log: x.log, Index: x.index, Seq: x.seq}, x.want)
	}
	for _, n := range far() {
		mayBe(t, api.Version{Next: n}, false)
		mayBe(t, api.Version{Next: 9, Log: n}, false)
		mayBe(t, api.Version{Next: n, Log: n}, false)
		mayBe(t, api.Version{Next: 9, Index: n}, false)
		mayBe(t, api.Version{Next: 9, Seq: n}, false)
	}
}

// P10.1: one table's place, at its edges.
func TestMayOfPlace(t *testing.T) {
	const most = api.MaxNumber
	for _, x := range []struct {
		next int64
		at   api.TableAt
		want bool
	}{
		{2, place(1, 0, "a", "b", 1), true}, {1, place(1, 0, "a", "b", 1), false}, {9, place(0, 0, "a", "b", 1), false}, {9, place(8, 0, "a", "b", 1), true},
		{9, place(9, 0, "a", "b", 1), false}, {9, place(10, 0, "a", "b", 1), false}, {most, place(most-1, 3, "a", "b", 1), true}, {most, place(most, 3, "a", "b", 1), false},
		{9, place(1, 1, "a", "b", 1), true}, {9, place(1, 3, "a", "b", 1), true}, {9, place(1, 4, "a", "b", 1), false}, {9, place(1, -1, "a", "b", 1), false},
		{9, place(1, math.MaxInt, "a", "b", 1), false}, {9, place(1, math.MinInt, "a", "b", 1), false}, {9, place(1, 1<<32, "a", "b", 1), false},
		{9, place(1, 1, "a", "b", 0), false}, {9, place(1, 1, "a", "b", most), true}, {9, place(1, 1, "a", "a", 1), true}, {9, place(1, 1, "b", "a", 1), false},
		{9, place(1, 0, "b", "a", 1), false}, {9, place(1, 1, "a", "a\x00", 1), true}, {9, place(1, 1, "a\x00", "a", 1), false}, {9, place(1, 1, "\x00", "\xff", 1), true},
		{9, place(1, 1, "", "a", 1), false}, {9, place(1, 1, "a", "", 1), false}, {9, place(1, 1, "", "", 1), false}, {9, place(1, 0, "", "a", 1), false},
		{9, place(1, 1, long(32), long(32), 1), true}, {9, place(1, 1, "a", long(33), 1), false}, {9, place(1, 1, long(33), "y", 1), false}, {9, place(1, 1, long(31), long(32), 1), true},
		{9, place(1, 1, "a", long(70000), 1), false}, {9, api.TableAt{Number: 1, Level: 1, Size: 1}, false}, {9, api.TableAt{}, false},
	} {
		v := api.Version{Next: x.next, Tables: []api.TableAt{x.at}}
		mayBe(t, v, x.want)
		if beside := version(19, at(18, 0, "a-z"), at(17, 3, "k-k")); x.next == 9 && x.at.Level > 0 && x.at.Level < 3 {
			beside.Tables = slices.Insert(beside.Tables, 1, x.at)
			mayBe(t, beside, x.want)
		}
	}
	for _, n := range far() {
		mayBe(t, version(9, place(n, 1, "a", "b", 1)), false)
		mayBe(t, version(9, place(1, 1, "a", "b", n)), false)
		mayBe(t, version(9, place(1, int(n), "a", "b", 1)), false)
	}
}

// P10.1: several tables: no number twice, and the order in which they stand.
func TestMayOfTables(t *testing.T) {
	for _, x := range []struct {
		tables []api.TableAt
		want   bool
	}{
		{[]api.TableAt{at(2, 0, "a-c"), at(1, 0, "a-c")}, true}, {[]api.TableAt{at(1, 0, "a-c"), at(2, 0, "a-c")}, false}, {[]api.TableAt{at(1, 0, "a-c"), at(2, 0, "d-e")}, false},
		{[]api.TableAt{at(5, 0, "x-z"), at(4, 0, "a-c"), at(2, 0, "m-n")}, true}, {[]api.TableAt{at(5, 0, "x-z"), at(2, 0, "m-n"), at(4, 0, "a-c")}, false},
		{[]api.TableAt{at(2, 0, "a-c"), at(2, 0, "a-c")}, false}, {[]api.TableAt{at(2, 0, "a-c"), at(2, 1, "a-c")}, false}, {[]api.TableAt{at(2, 1, "a-b"), at(2, 1, "c-d")}, false},
		{[]api.TableAt{at(2, 1, "a-b"), at(3, 1, "c-d"), at(2, 2, "a-b")}, false}, {[]api.TableAt{at(2, 1, "a-b"), at(2, 3, "c-d")}, false},
		{[]api.TableAt{at(1, 0, "a-c"), at(2, 1, "a-c"), at(3, 2, "a-c"), at(4, 3, "a-c")}, true}, {[]api.TableAt{at(2, 1, "a-c"), at(1, 0, "a-c")}, false}, {[]api.TableAt{at(2, 3, "a-c"), at(1, 2, "d-e")}, false},
		{[]api.TableAt{at(1, 1, "a-b"), at(2, 1, "c-d")}, true}, {[]api.TableAt{at(2, 1, "a-b"), at(1, 1, "c-d")}, true}, {[]api.TableAt{at(1, 1, "c-d"), at(2, 1, "a-b")}, false},
		{[]api.TableAt{at(1, 1, "a-b"), at(2, 1, "b-c")}, false}, {[]api.TableAt{at(1, 1, "a-b"), at(2, 1, "b\x00-c")}, true}, {[]api.TableAt{at(1, 1, "a-d"), at(2, 1, "b-c")}, false},
		{[]api.TableAt{at(1, 1, "b-c"), at(2, 1, "a-d")}, false}, {[]api.TableAt{at(1, 1, "a-a"), at(2, 1, "a-a")}, false}, {[]api.TableAt{at(1, 1, "a-c"), at(2, 1, "a-d")}, false},
		{[]api.TableAt{at(1, 3, "a-b"), at(2, 3, "b-c")}, false}, {[]api.TableAt{at(1, 3, "a-b"), at(2, 3, "ba-c")}, true}, {[]api.TableAt{at(1, 2, "a-b"), at(2, 2, "ab-c")}, false},
		{[]api.TableAt{at(1, 1, "a-b"), at(2, 1, "c-d"), at(3, 1, "d-e")}, false}, {[]api.TableAt{at(1, 1, "a-b"), at(2, 1, "c-d"), at(3, 1, "e-e")}, true},
		{[]api.TableAt{at(1, 1, "a-z"), at(2, 2, "c-d"), at(3, 2, "e-e")}, true},
	} {
		v := version(9, x.tables...)
		v.Log = 8 // none of theirs
		mayBe(t, v, x.want)
	}
}

// P10.1: each table of a version of many taken twice, changed places, or made one that may not be.
func TestMayOfMany(t *testing.T) {
	v := levels()
	for i := range v.Tables {
		for j := range v.Tables {
			if i != j {
				w := deep(v)
				w.Tables[i], w.Tables[j] = w.Tables[j], w.Tables[i]
				mayBe(t, w, false)
				w = deep(v)
				w.Tables[i].Number = w.Tables[j].Number
				mayBe(t, w, false)
			}
		}
		w := deep(v)
		w.Tables[i].Size = 0
		mayBe(t, w, false)
		w = deep(v)
		w.Tables[i].Last = []byte("\xff")
		mayBe(t, w, v.Tables[i].Level == 0 || i == 6 || i == 8 || i == 9)
		mayBe(t, version(20, slices.Delete(deep(v).Tables, i, i+1)...), true)
		mayBe(t, version(v.Tables[i].Number, v.Tables...), false)
	}
}

// P10.1: no number is there twice: the log's is none of the tables', on whatever level, nor Next.
func TestMayOfLog(t *testing.T) {
	v := levels()
	numbers := edit.Files(v)
	for log := range v.Next + 1 {
		v.Log = log
		mayBe(t, v, log < v.Next && !slices.Contains(numbers, log))
	}
	for i, one := range v.Tables {
		v.Log = one.Number
		mayBe(t, v, false)
		mayBe(t, api.Version{Next: 20, Log: one.Number, Tables: v.Tables[i : i+1]}, false)
		v.Tables = slices.Delete(deep(v).Tables, i, i+1)
		mayBe(t, v, true)
		v = levels()
	}
	const most = api.MaxNumber
	mayBe(t, api.Version{Next: most, Log: most - 1, Tables: []api.TableAt{place(most-1, 0, "a", "c", 1)}}, false)
	mayBe(t, api.Version{Next: most, Log: most - 1, Tables: []api.TableAt{place(most-2, 0, "a", "c", 1)}}, true)
	mayBe(t, api.Version{Next: most, Log: most - 2, Tables: []api.TableAt{place(most-1, 0, "a", "c", 1)}}, true)
	// a place and a sequence number are no files' numbers
	mayBe(t, api.Version{Next: 9, Log: 3, Index: 5, Seq: 5, Tables: []api.TableAt{at(5, 0, "a-c")}}, true)
	mayBe(t, api.Version{Next: 9, Log: 3, Index: 3, Seq: 3, Tables: []api.TableAt{at(5, 0, "a-c")}}, true)
	mayBe(t, api.Version{Next: 9, Log: 3, Index: 9, Seq: 9, Tables: []api.TableAt{at(5, 0, "a-c")}}, true)
}

// P10.1: any versions, held against the chapter's words.
func TestMayOfAny(t *testing.T) {
	counts := map[bool]int{}
	for seed := range uint32(30000) {
		next := chance(seed)
		v := api.Version{Next: int64(2 + next(12)), Log: int64(next(3)), Index: int64(next(5)), Seq: int64(next(5))}
		for range next(4) {
			v.Tables = append(v.Tables, someAt(next))
		}
		is := versionIs(v)
		mayBe(t, v, is)
		counts[is]++
	}
	if counts[true] < 5000 || counts[false] < 5000 {
		t.Errorf("%v", counts)
	}
}

// P10.1: the chapter's examples.
func TestExamples(t *testing.T) {
	v := done(t, empty(), api.Edit{Add: []api.TableAt{at(1, 0, "a-c")}, Next: 2, Seq: 3})
	if want := (api.Version{Next: 2, Seq: 3, Tables: []api.TableAt{at(1, 0, "a-c")}}); !same(v, want) {
		t.Fatalf("%v", v)
	}
	v = done(t, v, api.Edit{Drop: []int64{1}, Add: []api.TableAt{at(2, 1, "a-b"), at(3, 1, "c-c")}, Next: 4, Seq: 3})
	if want := (api.Version{Next: 4, Seq: 3, Tables: []api.TableAt{at(2, 1, "a-b"), at(3, 1, "c-c")}}); !same(v, want) {
		t.Fatalf("%v", v)
	}
	refused(t, v, api.Edit{Add: []api.TableAt{at(4, 1, "b-d")}, Next: 5, Seq: 3}, api.ErrState)
	if got := edit.Overlap(v, 1, []byte("b"), []byte("c")); !same(got, v.Tables) {
		t.Fatalf("%v", got)
	}
}

// P10.1: what is dropped, and what is added, in whatever order; the tables stand in order.
func TestDo(t *testing.T) {
	v := levels()
	same4 := api.Edit{Next: 20, Log: 3, Index: 50, Seq: 70}
	if got := done(t, v, same4); !same(got, v) {
		t.Fatalf("an edit of nothing: %v", got)
	}
	e := api.Edit{Drop: []int64{1, 12, 7, 18}, Next: 40, Log: 25, Index: 51, Seq: 99,
		Add: []api.TableAt{at(30, 3, "t-z"), at(31, 1, "b-c"), at(20, 0, "b-d"), at(1, 3, "d-e"), at(39, 0, "a-z"), at(29, 1, "a-a"), at(10, 0, "c-c")}}
	want := api.Version{Next: 40, Log: 25, Index: 51, Seq: 99, Tables: []api.TableAt{
		at(39, 0, "a-z"), at(20, 0, "b-d"), at(15, 0, "c-m"), at(10, 0, "c-c"), at(4, 0, "m-m"),
		at(29, 1, "a-a"), at(31, 1, "b-c"), at(2, 1, "d-d"), at(11, 1, "da-m"), at(6, 1, "n-z"),
		at(9, 2, "b-b"), at(1, 3, "d-e"), at(30, 3, "t-z")}}
	for range len(e.Drop) {
		e.Drop = append(e.Drop[1:], e.Drop[0])
		for range len(e.Add) {
			e.Add = append(e.Add[1:], e.Add[0])
			if got := done(t, v, e); !same(got, want) {
				t.Fatalf("Do(.., %v): %v", e, got)
			}
		}
	}
	all := edit.Files(v)
	if got := done(t, v, api.Edit{Drop: all, Next: 20, Log: 19, Index: 50, Seq: 70}); !same(got, api.Version{Next: 20, Log: 19, Index: 50, Seq: 70}) {
		t.Fatalf("all dropped: %v", got)
	}
}

// P10.1: an edit may drop a number and add it, elsewhere or as it was; its numbers may stay, or rise one by one, up to the greatest.
func TestDoAtEdges(t *testing.T) {
	v := version(9, at(5, 0, "a-c"), at(2, 1, "a-c"))
	if got := done(t, v, api.Edit{Drop: []int64{5, 2}, Add: []api.TableAt{at(5, 1, "d-e"), at(2, 1, "a-c")}, Next: 9, Log: 3, Index: 50, Seq: 70}); !same(got, version(9, at(2, 1, "a-c"), at(5, 1, "d-e"))) {
		t.Fatalf("%v", got)
	}
	for _, e := range []api.Edit{{Next: 10, Log: 3, Index: 50, Seq: 70}, {Next: 9, Log: 8, Index: 50, Seq: 70}, {Next: 9, Log: 3, Index: 51, Seq: 70}, {Next: 9, Log: 3, Index: 50, Seq: 71}, {Next: api.MaxNumber, Log: api.MaxNumber - 1, Index: api.MaxNumber, Seq: api.MaxNumber}} {
		want := api.Version{Next: e.Next, Log: e.Log, Index: e.Index, Seq: e.Seq, Tables: v.Tables}
		if got := done(t, v, e); !same(got, want) {
			t.Fatalf("%v", got)
		}
	}
	top := api.Version{Next: api.MaxNumber, Log: api.MaxNumber - 1, Index: api.MaxNumber, Seq: api.MaxNumber}
	if got := done(t, empty(), wholeOf(top)); !same(got, top) {
		t.Fatalf("%v", got)
	}
}

// P10.1: edits that may not be done.
func TestDoRefused(t *testing.T) {
	v := version(9, at(5, 0, "a-c"), at(2, 1, "b-c"), at(4, 1, "e-g"))
	for _, e := range []api.Edit{
		{Next: 8, Log: 3, Index: 50, Seq: 70}, {Next: 9, Log: 2, Index: 50, Seq: 70}, {Next: 9, Log: 3, Index: 49, Seq: 70}, {Next: 9, Log: 3, Index: 50, Seq: 69}, {Next: 9, Log: 9, Index: 50, Seq: 70}, {},
		{Drop: []int64{1}, Next: 9, Log: 3, Index: 50, Seq: 70}, {Drop: []int64{2, 3}, Next: 9, Log: 3, Index: 50, Seq: 70}, {Drop: []int64{0}, Next: 9, Log: 3, Index: 50, Seq: 70}, {Drop: []int64{-2}, Next: 9, Log: 3, Index: 50, Seq: 70},
		{Drop: []int64{5, 2, 4, 9}, Next: 9, Log: 3, Index: 50, Seq: 70}, {Drop: []int64{math.MinInt64, math.MaxInt64}, Next: 9, Log: 3, Index: 50, Seq: 70}, {Drop: []int64{6}, Add: []api.TableAt{at(6, 0, "a-b")}, Next: 9, Log: 3, Index: 50, Seq: 70},
		{Add: []api.TableAt{at(5, 0, "a-c")}, Next: 9, Log: 3, Index: 50, Seq: 70}, {Add: []api.TableAt{at(5, 3, "a-c")}, Next: 9, Log: 3, Index: 50, Seq: 70}, {Add: []api.TableAt{at(9, 0, "a-c")}, Next: 9, Log: 3, Index: 50, Seq: 70},
		{Add: []api.TableAt{at(7, 0, "a-c"), at(7, 2, "a-c")}, Next: 9, Log: 3, Index: 50, Seq: 70}, {Drop: []int64{5}, Add: []api.TableAt{at(5, 0, "a-c"), at(5, 0, "a-c")}, Next: 9, Log: 3, Index: 50, Seq: 70},
		{Add: []api.TableAt{at(7, 1, "a-b")}, Next: 9, Log: 3, Index: 50, Seq: 70}, {Add: []api.TableAt{at(7, 1, "c-d")}, Next: 9, Log: 3, Index: 50, Seq: 70}, {Add: []api.TableAt{at(7, 1, "a-z")}, Next: 9, Log: 3, Index: 50, Seq: 70},
		{Add: []api.TableAt{at(7, 1, "f-f")}, Next: 9, Log: 3, Index: 50, Seq: 70}, {Add: []api.TableAt{at(7, 2, "a-b"), at(8, 2, "b-c")}, Next: 9, Log: 3, Index: 50, Seq: 70}, {Drop: []int64{2}, Add: []api.TableAt{at(7, 1, "d-e")}, Next: 9, Log: 3, Index: 50, Seq: 70},
		{Add: []api.TableAt{at(7, 4, "a-b")}, Next: 9, Log: 3, Index: 50, Seq: 70}, {Add: []api.TableAt{at(7, -1, "a-b")}, Next: 9, Log: 3, Index: 50, Seq: 70}, {Add: []api.TableAt{at(0, 0, "a-b")}, Next: 9, Log: 3, Index: 50, Seq: 70},
		{Add: []api.TableAt{at(-1, 0, "a-b")}, Next: 9, Log: 3, Index: 50, Seq: 70}, {Add: []api.TableAt{place(7, 0, "a", "b", 0)}, Next: 9, Log: 3, Index: 50, Seq: 70}, {Add: []api.TableAt{at(7, 0, "b-a")}, Next: 9, Log: 3, Index: 50, Seq: 70},
		{Add: []api.TableAt{at(7, 0, "-a")}, Next: 9, Log: 3, Index: 50, Seq: 70}, {Add: []api.TableAt{at(7, 0, "a-"+long(33))}, Next: 9, Log: 3, Index: 50, Seq: 70}, {Add: []api.TableAt{{}}, Next: 9, Log: 3, Index: 50, Seq: 70},
		{Next: api.MaxNumber + 1, Log: 3, Index: 50, Seq: 70}, {Next: 9, Log: 3, Index: api.MaxNumber + 1, Seq: 70}, {Next: 9, Log: 3, Index: 50, Seq: api.MaxNumber + 1},
	} {
		refused(t, v, e, api.ErrState)
	}
	for _, n := range far() {
		for _, e := range []api.Edit{{Next: n, Log: 3, Index: 50, Seq: 70}, {Next: 9, Log: n, Index: 50, Seq: 70}, {Next: 9, Log: 3, Index: n, Seq: 70}, {Next: 9, Log: 3, Index: 50, Seq: n}} {
			refused(t, v, e, api.ErrState)
			refused(t, empty(), e, api.ErrState)
		}
	}
}

// P10.1: what comes of an edit has no number twice, as the log's and as a table's: that of a table that stays, or comes; one that goes gives its number away.
func TestDoLogTwice(t *testing.T) {
	v := version(9, at(5, 0, "a-c"), at(2, 1, "b-c"), at(4, 1, "e-g"))
	for _, e := range []api.Edit{
		{Next: 9, Log: 5, Index: 50, Seq: 70}, {Next: 9, Log: 4, Index: 50, Seq: 70}, {Drop: []int64{2, 4}, Next: 9, Log: 5, Index: 50, Seq: 70}, {Drop: []int64{5, 2}, Next: 19, Log: 4, Index: 51, Seq: 71},
		{Add: []api.TableAt{at(3, 0, "a-c")}, Next: 9, Log: 3, Index: 50, Seq: 70}, {Add: []api.TableAt{at(3, 3, "a-c")}, Next: 9, Log: 3, Index: 50, Seq: 70}, {Add: []api.TableAt{at(7, 0, "a-c"), at(8, 2, "a-c")}, Next: 9, Log: 7, Index: 50, Seq: 70},
		{Add: []api.TableAt{at(7, 0, "a-c"), at(8, 2, "a-c")}, Next: 9, Log: 8, Index: 50, Seq: 70}, {Drop: []int64{5}, Add: []api.TableAt{at(5, 2, "a-c")}, Next: 9, Log: 5, Index: 50, Seq: 70},
	} {
		refused(t, v, e, api.ErrState)
	}
	for _, e := range []api.Edit{
		{Drop: []int64{5}, Next: 9, Log: 5, Index: 50, Seq: 70}, {Drop: []int64{4}, Next: 9, Log: 4, Index: 50, Seq: 70}, {Drop: []int64{4, 5}, Add: []api.TableAt{at(5, 1, "e-g")}, Next: 9, Log: 4, Index: 50, Seq: 70},
		{Add: []api.TableAt{at(3, 0, "a-c")}, Next: 9, Log: 6, Index: 50, Seq: 70}, {Add: []api.TableAt{at(7, 0, "a-c")}, Next: 9, Log: 8, Index: 50, Seq: 70},
	} {
		want, _ := doneTo(v, e)
		if got := done(t, v, e); !same(got, want) || got.Log != e.Log {
			t.Fatalf("Do(%v, %v): %v, want %v", v, e, got, want)
		}
	}
	bad := version(9, at(5, 0, "a-c"), at(3, 1, "b-c"))
	refused(t, bad, api.Edit{Drop: []int64{3}, Next: 9, Log: 3, Index: 50, Seq: 70}, api.ErrArg)
	refused(t, bad, api.Edit{Next: 9, Log: 6, Index: 50, Seq: 70}, api.ErrArg)
}

// P10.1: ErrArg comes ahead of ErrState: a version that may not be, a number twice in Drop.
func TestDoArg(t *testing.T) {
	v := version(9, at(5, 0, "a-c"), at(2, 1, "b-c"), at(4, 1, "e-g"))
	for _, drop := range [][]int64{{5, 5}, {5, 2, 5}, {2, 4, 5, 2}, {7, 7}, {0, 0}, {-1, 4, -1}, {1, 2, 3, 4, 5, 6, 3}} {
		refused(t, v, api.Edit{Drop: drop, Next: 9, Log: 3, Index: 50, Seq: 70}, api.ErrArg)
		refused(t, v, api.Edit{Drop: drop, Add: []api.TableAt{{}}}, api.ErrArg)
	}
	for _, bad := range []api.Version{{}, {Next: 1, Log: 1}, {Next: 1, Seq: -1}, version(5, at(5, 0, "a-c")), version(9, at(2, 0, "a-c"), at(5, 0, "a-c")), version(9, at(5, 1, "a-c"), at(2, 1, "c-c")), version(9, at(5, 1, "d-e"), at(2, 1, "a-c")), version(9, place(5, 0, "a", "b", 0))} {
		refused(t, bad, api.Edit{}, api.ErrArg)
		refused(t, bad, api.Edit{Next: 20, Log: 10, Index: 60, Seq: 80}, api.ErrArg)
		refused(t, bad, api.Edit{Drop: edit.Files(bad), Next: 20, Log: 10, Index: 60, Seq: 80}, api.ErrArg)
		refused(t, bad, api.Edit{Drop: []int64{77}, Next: 20, Log: 10, Index: 60, Seq: 80}, api.ErrArg)
	}
}

// P10.1: any edits, one behind the other, held against the chapter's words; what is handed in stays.
func TestDoOfAny(t *testing.T) {
	counts := map[api.Errno]int{}
	for seed := range uint32(2500) {
		next := chance(seed)
		v := empty()
		for range 12 {
			e := someEdit(next, v)
			want, no := doneTo(v, e)
			counts[no]++
			if no != api.OK {
				refused(t, v, e, no)
				continue
			}
			was, edits := deep(v), deep(wholeOfEdit(e))
			got := done(t, v, e)
			if !same(got, want) {
				t.Fatalf("Do(%v, %v): %v, want %v", v, e, got, want)
			}
			if !same(v, was) || !same(wholeOfEdit(e), edits) {
				t.Fatalf("Do changes %v to %v, or %v to %v", was, v, edits, e)
			}
			v = got
		}
	}
	if counts[api.OK] < 5000 || counts[api.ErrState] < 3000 || counts[api.ErrArg] < 200 {
		t.Errorf("%v", counts)
	}
}

// wholeOfEdit is what an edit adds, as a version's.
func wholeOfEdit(e api.Edit) api.Version {
	return api.Version{Next: e.Next, Log: e.Log, Index: e.Index, Seq: e.Seq, Tables: e.Add}
}

// P10.1: what Do answers shares nothing with what was handed in.
func TestDoSharesNothing(t *testing.T) {
	v := version(9, at(5, 0, "a-c"), at(2, 1, "b-c"), at(4, 1, "e-g"))
	v.Tables = slices.Grow(v.Tables, 9)
	e := api.Edit{Drop: []int64{4}, Add: []api.TableAt{at(7, 2, "k-m"), at(8, 0, "x-x")}, Next: 9, Log: 3, Index: 50, Seq: 70}
	e.Add[1].Last = e.Add[1].First // one memory
	next := done(t, v, e)
	want := version(9, at(8, 0, "x-x"), at(5, 0, "a-c"), at(2, 1, "b-c"), at(7, 2, "k-m"))
	for _, l := range [][]api.TableAt{v.Tables[:cap(v.Tables)], e.Add} {
		for i := range l {
			clear(l[i].First)
			clear(l[i].Last)
			l[i] = api.TableAt{}
		}
	}
	e.Drop[0] = 8
	if !same(next, want) {
		t.Fatalf("%v", next)
	}
	clear(next.Tables[0].First)
	if string(next.Tables[0].Last) != "x" {
		t.Fatalf("%v", next)
	}
}
