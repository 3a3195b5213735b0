package edit_test

import (
	"math"
	"slices"
	"testing"

	"hectare/api"
	"hectare/edit"
)

// odd are levels that no version has.
func odd() []int {
	return []int{-1, 4, 5, 1 << 32, -1 << 32, math.MinInt, math.MaxInt}
}

// P10.3: a level's tables, in order, and how many bytes they have.
func TestOf(t *testing.T) {
	v := levels()
	for level, part := range [][2]int{{0, 3}, {3, 7}, {7, 9}, {9, 10}} {
		want := v.Tables[part[0]:part[1]]
		if got := edit.Of(v, level); !same(got, want) {
			t.Errorf("Of(%d): %v", level, got)
		}
		size := int64(0)
		for _, at := range want {
			size += at.Size
		}
		if got := edit.Bytes(v, level); got != size {
			t.Errorf("Bytes(%d): %d, want %d", level, got, size)
		}
	}
	if got := []int64{edit.Bytes(v, 0), edit.Bytes(v, 1), edit.Bytes(v, 2), edit.Bytes(v, 3)}; !slices.Equal(got, []int64{331, 426, 210, 118}) {
		t.Errorf("Bytes: %v", got)
	}
	if !same(v, levels()) {
		t.Errorf("%v", v)
	}
	for _, level := range odd() {
		if edit.Of(v, level) != nil || edit.Bytes(v, level) != 0 || edit.Overlap(v, level, []byte("\x00"), []byte("\xff")) != nil {
			t.Errorf("the level %d has something", level)
		}
	}
	for level := range 4 {
		if edit.Of(empty(), level) != nil || edit.Bytes(empty(), level) != 0 || edit.Overlap(empty(), level, []byte("a"), []byte("z")) != nil {
			t.Errorf("of the empty version the level %d has something", level)
		}
		if edit.Of(version(9, at(4, (level+1)%4, "a-b")), level) != nil {
			t.Errorf("the level %d has another one's", level)
		}
	}
}

// P10.3: sizes that come to more than 32 bits.
func TestBytesOfGreat(t *testing.T) {
	v := version(99)
	for i := range 40 {
		v.Tables = append(v.Tables, place(int64(90-i), 0, "a", "b", api.MaxNumber))
	}
	if got := edit.Bytes(v, 0); got != 40*(1<<31-1) || !edit.May(v) {
		t.Errorf("%d", got)
	}
}

// P10.3: which tables have keys from one to another one: all pairs of keys that are at the tables' edges, or beside them.
func TestOverlap(t *testing.T) {
	v := levels()
	keys := []string{"", "\x00", "a", "a\x00", "b", "b\x00", "c", "c\x00", "cz", "d", "d\x00", "da", "db", "k", "k\x00", "l", "m", "m\x00", "n", "y", "z", "z\x00", "\xff", "\xff\x00", long(40)}
	for level := range 4 {
		for _, first := range keys {
			for _, last := range keys {
				var want []api.TableAt
				for _, at := range v.Tables {
					if at.Level == level && max(first, string(at.First)) <= min(last, string(at.Last)) {
						want = append(want, at)
					}
				}
				got := edit.Overlap(v, level, []byte(first), []byte(last))
				if !same(got, want) {
					t.Fatalf("Overlap(%d, %q, %q): %v, want %v", level, first, last, got, want)
				}
				if first > last && got != nil {
					t.Fatalf("no key is from %q to %q", first, last)
				}
			}
		}
	}
	if got := edit.Overlap(v, 1, []byte("c"), []byte("da")); !same(got, []api.TableAt{at(7, 1, "a-c"), at(2, 1, "d-d"), at(11, 1, "da-m")}) {
		t.Errorf("%v", got)
	}
	if got := edit.Overlap(v, 0, []byte("n"), []byte("z")); !same(got, []api.TableAt{at(12, 0, "a-z")}) {
		t.Errorf("%v", got)
	}
	if edit.Overlap(v, 0, nil, nil) != nil || edit.Overlap(v, 0, []byte("a"), nil) != nil || len(edit.Overlap(v, 0, nil, []byte("c"))) != 2 {
		t.Errorf("no key: it is ahead of all")
	}
	if !same(v, levels()) {
		t.Errorf("%v", v)
	}
}

// P10.3: all numbers, rising, whatever the level.
func TestFiles(t *testing.T) {
	v := levels()
	if got := edit.Files(v); !slices.Equal(got, []int64{1, 2, 4, 6, 7, 9, 11, 12, 15, 18}) || !same(v, levels()) {
		t.Errorf("%v", got)
	}
	for _, x := range []struct {
		v    api.Version
		want []int64
	}{{empty(), nil}, {version(99), nil}, {version(9, at(5, 0, "a-b")), []int64{5}}, {version(9, at(5, 0, "a-b"), at(4, 0, "a-b"), at(6, 3, "a-b")), []int64{4, 5, 6}}} {
		if got := edit.Files(x.v); !slices.Equal(got, x.want) {
			t.Errorf("Files(%v): %v", x.v, got)
		}
	}
}

// P10.3: are both the same, in all? Each part of one of them changed.
func TestSame(t *testing.T) {
	if !edit.Same(levels(), levels()) || !edit.Same(empty(), api.Version{Next: 1, Tables: []api.TableAt{}}) || edit.Same(levels(), empty()) || edit.Same(empty(), levels()) || !edit.Same(api.Version{}, api.Version{}) {
		t.Errorf("Same")
	}
	changes := []func(v *api.Version){
		func(v *api.Version) { v.Next++ }, func(v *api.Version) { v.Log++ }, func(v *api.Version) { v.Index++ }, func(v *api.Version) { v.Seq++ }, func(v *api.Version) { v.Next += 1 << 32 }, func(v *api.Version) { v.Tables = nil },
		func(v *api.Version) { v.Next, v.Log = v.Log, v.Next }, func(v *api.Version) { v.Index, v.Seq = v.Seq, v.Index }, func(v *api.Version) { v.Tables = append(v.Tables, at(19, 3, "\xff\xff-\xff\xff")) },
	}
	for i := range levels().Tables {
		changes = append(changes,
			func(v *api.Version) { v.Tables[i].Number++ }, func(v *api.Version) { v.Tables[i].Level++ }, func(v *api.Version) { v.Tables[i].Size-- },
			func(v *api.Version) { v.Tables[i].First = append(v.Tables[i].First, 0) }, func(v *api.Version) { v.Tables[i].Last = append(v.Tables[i].Last, 0) },
			func(v *api.Version) { v.Tables[i].First[0]-- }, func(v *api.Version) { v.Tables[i].Last[0]-- }, func(v *api.Version) { v.Tables[i].First = nil }, func(v *api.Version) { v.Tables[i].Last = nil },
			func(v *api.Version) { v.Tables = slices.Delete(v.Tables, i, i+1) }, func(v *api.Version) { v.Tables[i], v.Tables[(i+1)%10] = v.Tables[(i+1)%10], v.Tables[i] })
	}
	for i, change := range changes {
		v := levels()
		change(&v)
		if edit.Same(v, levels()) || edit.Same(levels(), v) || !edit.Same(v, deep(v)) {
			t.Errorf("%d: %v", i, v)
		}
	}
	none := version(9, api.TableAt{Number: 3})
	if !edit.Same(none, version(9, place(3, 0, "", "", 0))) {
		t.Errorf("nil and empty keys are one")
	}
}

// P10.3: looking shares nothing with what is looked at, and is not in the way of versions that may not be.
func TestLookSharesNothing(t *testing.T) {
	v := levels()
	clearAll := func(l []api.TableAt) {
		if len(l) == 0 {
			t.Fatal("nothing")
		}
		for i := range l {
			clear(l[i].First)
			clear(l[i].Last)
			l[i] = api.TableAt{}
		}
		_ = append(l[:0], make([]api.TableAt, cap(l))...)
	}
	for level := range 4 {
		clearAll(edit.Of(v, level))
		clearAll(edit.Overlap(v, level, []byte("c"), []byte("z")))
	}
	clear(edit.Files(v))
	if !same(v, levels()) {
		t.Fatalf("%v", v)
	}
	bad := api.Version{Next: -1, Tables: []api.TableAt{{}, {Number: 5, Level: -7}, {Number: -5, Level: math.MaxInt, First: []byte("b"), Last: []byte("a")}}}
	for _, level := range append(odd(), 0, 1, -7) {
		edit.Of(bad, level)
		edit.Overlap(bad, level, nil, []byte("z"))
		edit.Bytes(bad, level)
	}
	if got := edit.Files(bad); !slices.Equal(got, []int64{-5, 0, 5}) || !edit.Same(bad, deep(bad)) {
		t.Fatalf("%v", got)
	}
}
