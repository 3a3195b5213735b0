package compact_test

import (
	"slices"
	"strconv"
	"testing"

	"hectare/api"
	"hectare/compact"
	"hectare/edit"
	"hectare/ikey"
)

// store is a version, and its tables' entries and bytes by numbers.
type store struct {
	v       api.Version
	entries map[int64][]api.Entry
	bytes   map[int64][]byte
}

func newStore() *store {
	return &store{v: api.Version{Next: 1}, entries: map[int64][]api.Entry{}, bytes: map[int64][]byte{}}
}

// add makes a table of these entries, at that level.
func (s *store) add(t *testing.T, level int, l ...api.Entry) {
	t.Helper()
	b := written(t, l...)
	e := api.Edit{Next: s.v.Next + 1, Seq: s.v.Seq}
	for _, one := range l {
		e.Seq = max(e.Seq, one.Seq)
	}
	first, last := string(l[0].Key), string(l[len(l)-1].Key)
	e.Add = []api.TableAt{{Number: s.v.Next, Level: level, First: []byte(first), Last: []byte(last), Size: int64(len(b))}}
	s.entries[s.v.Next], s.bytes[s.v.Next] = l, b
	s.do(t, e)
}

// do does an edit.
func (s *store) do(t *testing.T, e api.Edit) {
	t.Helper()
	v, no := edit.Do(s.v, e)
	if no != api.OK {
		t.Fatalf("Do(%v, %v): %v", s.v, e, no)
	}
	s.v = v
}

// compact does what is next, and tells whether there was something.
func (s *store) compact(t *testing.T, level, floor int64, size int) (api.Job, bool) {
	t.Helper()
	j, is := compact.Pick(s.v, level)
	if !is {
		return j, false
	}
	var tables [][]byte
	for _, at := range slices.Concat(j.In, j.Below) {
		tables = append(tables, s.bytes[at.Number])
	}
	out, no := compact.Run(j, tables, floor, size)
	if no != api.OK {
		t.Fatalf("Run(%v): %v", j, no)
	}
	e, no := compact.Edit(s.v, j, out)
	if no != api.OK {
		t.Fatalf("Edit(%v, %v, of %d): %v", s.v, j, len(out), no)
	}
	for i, at := range e.Add {
		s.entries[at.Number], s.bytes[at.Number] = entriesOf(t, out[i]), out[i]
	}
	s.do(t, e)
	return j, true
}

// seen is what is seen at a number, through all tables of the version.
func (s *store) seen(seq int64) string {
	best := map[string]api.Entry{}
	for _, at := range s.v.Tables {
		for _, e := range s.entries[at.Number] {
			if is := best[string(e.Key)]; e.Seq <= seq && e.Seq > is.Seq {
				best[string(e.Key)] = e
			}
		}
	}
	var l []api.Entry
	for _, e := range best {
		if e.Kind == api.KindPut {
			l = append(l, e)
		}
	}
	return tell(ikey.Sort(l...)...)
}

// count is how many entries there are in all.
func (s *store) count() int {
	n := 0
	for _, at := range s.v.Tables {
		n += len(s.entries[at.Number])
	}
	return n
}

// flushed adds a table at the level 0 of some keys, each with the next number.
func (s *store) flushed(t *testing.T, next func(int) int, keys int) {
	t.Helper()
	var l []api.Entry
	for i := range 1 + next(8) {
		key := "k" + strconv.Itoa(next(keys))
		seq := s.v.Seq + 1 + int64(i)
		if next(3) == 0 {
			l = append(l, del(key, seq))
		} else {
			l = append(l, put(key, seq, strconv.Itoa(next(1000))))
		}
	}
	s.add(t, 0, ikey.Sort(l...)...)
}

// seenFrom is what is seen at each number from floor on.
func (s *store) seenFrom(floor int64) []string {
	var all []string
	for seq := floor; seq <= s.v.Seq+1; seq++ {
		all = append(all, s.seen(seq))
	}
	return all
}

// P12.4, P0.4: what is seen at any number from floor on is the same behind each job.
func TestCompactChangesNothingSeen(t *testing.T) {
	counts := map[string]int{}
	for seed := range uint32(120) {
		next := chance(seed)
		level, size, keys := int64(1+next(700)), 1+next(120), 3+next(40)
		if seed%2 > 0 { // few keys in each table, and most of these at the last level: much lies beside what is run together
			level, size, keys = int64(1+next(60)), 1+next(40), 3+next(200)
		}
		s := newStore()
		floor := int64(0)
		for range 40 {
			s.flushed(t, next, keys)
			if next(3) > 0 {
				continue
			}
			floor = max(floor, s.v.Seq-int64(next(30)))
			was := s.seenFrom(floor)
			for range 1 + next(12) {
				j, is := s.compact(t, level, floor, size)
				if !is {
					counts["none"]++
					break
				}
				counts[text([]any{j.Level, j.Bottom, len(j.Below) > 0})]++
				if got := s.seenFrom(floor); !slices.Equal(got, was) {
					t.Fatalf("seed %d: from %d on, behind %v: %v, want %v", seed, floor, j, got, was)
				}
			}
		}
	}
	for _, kind := range []string{"none", "[0 true true]", "[0 false true]", "[1 true true]", "[1 false true]", "[1 true false]", "[2 true true]", "[2 true false]"} {
		if counts[kind] < 15 {
			t.Errorf("%s: %v", kind, counts)
		}
	}
}

// P12.4: at last no more is next, and the levels have no more than they hold; however low these bounds.
func TestCompactEnds(t *testing.T) {
	for seed := range uint32(80) {
		next := chance(seed + 900)
		level, size, keys := int64(1+next(1+next(700))), 1+next(60), 3+next(150)
		s := newStore()
		for range 1 + next(60) {
			s.flushed(t, next, keys)
		}
		was := s.seen(s.v.Seq)
		jobs := 0
		for is := true; is; jobs++ {
			if jobs > 3000 {
				t.Fatalf("seed %d: there is always more", seed)
			}
			_, is = s.compact(t, level, s.v.Seq, size)
		}
		if s.seen(s.v.Seq) != was || len(edit.Of(s.v, 0)) > 3 || edit.Bytes(s.v, 1) > level || edit.Bytes(s.v, 2) > 10*level {
			t.Fatalf("seed %d: %v", seed, s.v)
		}
	}
}

// P12.4: a key that is deleted in a table below, beside the keys of In, stays so, though a deeper level has it.
func TestDeletedBesideStaysDeleted(t *testing.T) {
	for _, key := range []string{"b", "g"} {
		s := newStore()
		s.add(t, 3, put(key, 1, "old"))
		s.add(t, 2, ikey.Sort(put("d", 2, ""), put("e", 3, ""), del(key, 4))...)
		s.add(t, 1, put("d", 5, "new"), put("e", 6, "new"))
		if got := s.seen(9); got != "d5=new e6=new" {
			t.Fatal(got)
		}
		j, is := s.compact(t, 1, 9, 99)
		if !is || j.Level != 1 || len(j.Below) != 1 {
			t.Fatalf("%v", j)
		}
		if got := s.seen(9); got != "d5=new e6=new" {
			t.Errorf("behind %v: %s", j, got)
		}
		for is := true; is; {
			_, is = s.compact(t, 1, 9, 99)
		}
		if got := s.seen(9); got != "d5=new e6=new" {
			t.Error(got)
		}
	}
}

// P12.4: what nobody needs goes at last: with the greatest number as floor, one entry a key, and no delete, once all is at the last level.
func TestCompactDropsWhatNobodyNeeds(t *testing.T) {
	s := newStore()
	next := chance(5)
	for range 60 {
		s.flushed(t, next, 20)
		for is := true; is; {
			_, is = s.compact(t, 300, s.v.Seq, 64)
		}
	}
	for n := range 20 {
		s.add(t, 0, del("k"+strconv.Itoa(n), s.v.Seq+1))
		for is := true; is; {
			_, is = s.compact(t, 1, s.v.Seq, 64)
		}
	}
	for n := range 4 {
		s.add(t, 0, put("z"+strconv.Itoa(n), s.v.Seq+1, ""))
	}
	for is := true; is; {
		_, is = s.compact(t, 1, s.v.Seq, 64)
	}
	if got := s.seen(s.v.Seq); got != tell(put("z0", s.v.Seq-3, ""), put("z1", s.v.Seq-2, ""), put("z2", s.v.Seq-1, ""), put("z3", s.v.Seq, "")) || s.count() != 4 {
		t.Errorf("%s: %d entries", got, s.count())
	}
}

// P12.4: at a floor below all numbers each entry is needed, so none goes, whatever the jobs.
func TestCompactKeepsWhatIsNeeded(t *testing.T) {
	s := newStore()
	next := chance(6)
	n := 0
	for range 50 {
		was := s.count()
		s.flushed(t, next, 12)
		n += s.count() - was
		for is := true; is; {
			_, is = s.compact(t, 200, 0, 64)
		}
	}
	if s.count() != n || len(edit.Of(s.v, 3)) == 0 {
		t.Errorf("%d of %d entries: %v", s.count(), n, s.v)
	}
}
