package compact_test

import (
	"math"
	"slices"
	"strings"
	"testing"

	"hectare/api"
	"hectare/compact"
	"hectare/edit"
)

// list is numbers as a list.
func list(l ...int64) []int64 {
	return l
}

// P12.1: the chapter's examples.
func TestPickOfTheChapter(t *testing.T) {
	v := version(at(4, 0, "a-c"), at(3, 0, "b-d"), at(2, 0, "x-z"), at(1, 0, "a-a"), at(5, 1, "d-f"), at(6, 1, "g-h"))
	picks(t, v, 256, job(v, 0, list(4, 3, 2, 1), list(5, 6), true), true)
	v = version(three(place(7, 1, "a-b", 200), place(8, 1, "c-d", 100), at(9, 2, "b-c"))...)
	picks(t, v, 256, job(v, 1, list(7), list(9), true), true)
	v = version(three(place(7, 1, "a-b", 100), place(8, 1, "c-d", 100), at(9, 2, "b-c"))...)
	picks(t, v, 256, api.Job{}, false)
}

// P12.1: how much each level holds, to the byte.
func TestPickAtTheBounds(t *testing.T) {
	picks(t, api.Version{Next: 1}, 1, api.Job{}, false)
	picks(t, version(), 1, api.Job{}, false)
	for n := range 9 {
		v := version()
		for i := range n {
			v.Tables = append(v.Tables, place(int64(20-i), 0, "a-b", api.MaxNumber))
		}
		if n <= 3 {
			picks(t, v, 1, api.Job{}, false)
		} else {
			picks(t, v, math.MaxInt64, api.Job{In: v.Tables, Bottom: true}, true)
		}
	}
	for _, level := range []int64{1, 2, 9, 10, 99, 256, 65536, 1 << 27} {
		for _, x := range []struct {
			deep  int
			holds int64
		}{{1, level}, {2, 10 * level}} {
			for _, size := range []int64{max(x.holds-1, 1), x.holds} {
				picks(t, version(place(7, x.deep, "a-b", size)), level, api.Job{}, false)
			}
			for _, size := range []int64{x.holds + 1, x.holds + 2, x.holds + 100} {
				v := version(place(7, x.deep, "a-b", size))
				picks(t, v, level, job(v, x.deep, list(7), nil, true), true)
			}
			if x.holds > 2 {
				v := version(place(7, x.deep, "a-b", 1), place(4, x.deep, "c-c", x.holds-2), place(5, x.deep, "d-f", 1))
				picks(t, v, level, api.Job{}, false)
				v = version(place(7, x.deep, "a-b", 1), place(4, x.deep, "c-c", x.holds-2), place(5, x.deep, "d-f", 2))
				picks(t, v, level, job(v, x.deep, list(4), nil, true), true)
			}
		}
		v := version(place(7, 3, "a-b", api.MaxNumber), place(6, 3, "c-d", api.MaxNumber))
		picks(t, v, level, api.Job{}, false)
	}
}

// P12.1: levels that have more than 32 bits say, and what holds more than 64 bits say.
func TestPickOfGreatNumbers(t *testing.T) {
	for deep, scale := range map[int]int64{1: 1, 2: 10} {
		v := version()
		for i := range 12 {
			key := string(rune('a' + i))
			v.Tables = append(v.Tables, place(int64(30+i), deep, key+"-"+key, api.MaxNumber))
		}
		whole := int64(12 * api.MaxNumber)
		first := job(v, deep, list(30), nil, true)
		picks(t, v, 1, first, true)
		picks(t, v, (whole-1)/scale, first, true)
		picks(t, v, (whole+scale-1)/scale, api.Job{}, false)
		for _, level := range []int64{whole, 1 << 40, 1 << 60, math.MaxInt64 / 10, math.MaxInt64/10 + 1, 1 << 61, 1 << 62, math.MaxInt64/100 + 1, math.MaxInt64/10*4 + 3, math.MaxInt64 - 1, math.MaxInt64} {
			picks(t, v, level, api.Job{}, false)
		}
	}
}

// P12.1: of several levels that have more the level 0 is next, else the least one; of its tables that with the least number.
func TestPickWhichLevel(t *testing.T) {
	zero := []api.TableAt{at(44, 0, "k-k"), at(43, 0, "k-k"), at(42, 0, "k-k"), at(41, 0, "k-k")}
	one := []api.TableAt{place(15, 1, "a-b", 400), place(12, 1, "c-d", 1), place(13, 1, "e-f", 300)}
	two := []api.TableAt{place(23, 2, "a-b", 9000), place(25, 2, "c-d", 8000), place(22, 2, "k-m", 7)}
	last := []api.TableAt{place(31, 3, "a-z", 1<<30)}
	v := version(slices.Concat(zero, one, two, last)...)
	picks(t, v, 256, job(v, 0, list(44, 43, 42, 41), nil, false), true)
	v = version(slices.Concat(zero[1:], one, two, last)...)
	picks(t, v, 256, job(v, 1, list(12), list(25), false), true)
	v = version(slices.Concat(zero[1:], one[1:2], two, last)...)
	picks(t, v, 256, job(v, 2, list(22), list(31), true), true)
	picks(t, v, 17007, api.Job{}, false)
	v = version(slices.Concat(zero, one[1:2], two, last)...)
	picks(t, v, 256, job(v, 0, list(44, 43, 42, 41), nil, false), true)
	v = version(slices.Concat(one, two)...)
	picks(t, v, 700, job(v, 1, list(12), list(25), true), true)
	picks(t, v, 701, job(v, 2, list(22), nil, true), true)
	v = version(slices.Concat(zero[3:], last)...)
	picks(t, v, 1, api.Job{}, false)
}

// P12.1: Below are the tables of the next level, of no other one, that have keys from the least to the greatest of In, also between its tables.
func TestPickBelow(t *testing.T) {
	for _, x := range []struct {
		in    string // a level 1's table
		below []int64
	}{
		{"a-a", nil}, {"a-b", nil}, {"a-b\xff", nil}, {"a-c", list(21)}, {"a-d", list(21)}, {"c-c", list(21)}, {"d-d", list(21)}, {"c\x00-c\x01", list(21)}, {"e-e", list(21)}, {"e\x00-e\xff", nil}, {"e-f", list(21)}, {"e\x00-g", list(29)},
		{"e-g", list(21, 29)}, {"f-g", list(29)}, {"g-g", list(29)}, {"g\x00-h", nil}, {"d-z", list(21, 29, 20)}, {"g-k", list(29, 20)}, {"h-k", list(20)}, {"k-m", list(20)}, {"m-z", list(20)}, {"m\x00-z", nil}, {"a-z", list(21, 29, 20)}, {"l-l", list(20)},
	} {
		v := version(three(place(7, 1, x.in, 300), at(21, 2, "c-e"), at(29, 2, "g-g"), at(20, 2, "k-m"))...)
		picks(t, v, 256, job(v, 1, list(7), x.below, true), true)
		v = version(three(place(7, 2, x.in, 3000), at(21, 3, "c-e"), at(29, 3, "g-g"), at(20, 3, "k-m"))...)
		picks(t, v, 256, job(v, 2, list(7), x.below, true), true)
	}
	v := version(at(9, 0, "k-l"), at(8, 0, "c-d"), at(7, 0, "p-p"), at(6, 0, "d-k"), at(30, 1, "a-b"), at(31, 1, "bb-c"), at(33, 1, "f-f"), at(32, 1, "m-n"), at(35, 1, "p-q"), at(34, 1, "r-s"))
	picks(t, v, 256, job(v, 0, list(9, 8, 7, 6), list(31, 33, 32, 35), true), true)
	v = version(at(9, 0, "k-l"), at(8, 0, "k-k"), at(7, 0, "l-l"), at(6, 0, "k-l"), at(30, 1, "a-j"), at(31, 1, "m-n"))
	picks(t, v, 256, job(v, 0, list(9, 8, 7, 6), nil, true), true)
}

// P12.1: it is Bottom, if no level below the next one has tables with keys in the range.
func TestPickBottom(t *testing.T) {
	for _, x := range []struct {
		other  string // a deeper table; In has the keys c to g
		bottom bool
	}{
		{"a-b", true}, {"a-b\xff", true}, {"a-c", false}, {"a-z", false}, {"c-c", false}, {"d-e", false}, {"g-g", false}, {"g-z", false}, {"g\x00-z", true}, {"h-z", true}, {"c\x00-d", false}, {"f-h", false},
	} {
		zero := []api.TableAt{at(44, 0, "c-d"), at(43, 0, "c-c"), at(42, 0, "g-g"), at(41, 0, "d-d")}
		for deep := 2; deep < 4; deep++ {
			v := version(append(slices.Clone(zero), at(7, deep, x.other))...)
			picks(t, v, 256, job(v, 0, list(44, 43, 42, 41), nil, x.bottom), true)
		}
		v := version(append(slices.Clone(zero), at(6, 2, "a-b"), at(8, 2, "x-z"), at(7, 3, x.other))...)
		picks(t, v, 256, job(v, 0, list(44, 43, 42, 41), nil, x.bottom), true)
		v = version(three(place(6, 1, "c-g", 300), at(7, 3, x.other))...)
		picks(t, v, 256, job(v, 1, list(6), nil, x.bottom), true)
		v = version(three(place(6, 1, "c-g", 300), at(8, 2, "d-e"), at(7, 3, x.other))...)
		picks(t, v, 256, job(v, 1, list(6), list(8), x.bottom), true)
		v = version(three(place(6, 1, "a-b", 2), place(5, 1, "c-g", 300), at(7, 3, x.other))...)
		picks(t, v, 256, job(v, 1, list(5), nil, x.bottom), true)
	}
	v := version(place(6, 2, "c-g", 3000), at(7, 3, "a-z"))
	picks(t, v, 256, job(v, 2, list(6), list(7), true), true)
}

// P12.1, P12.4: what Below has on either side of In is run together, too: if a deeper level has keys there, it is not Bottom, or a key that was deleted there would be seen again.
func TestPickBottomOfBelow(t *testing.T) {
	for _, x := range []struct {
		other  string // a table of the level 3; In has the keys c to d, Below a to c and d to g
		bottom bool
	}{
		{"A-Z", true}, {"A-a", false}, {"a-b", false}, {"b-b", false}, {"c-c", false}, {"e-f", false}, {"g-g", false}, {"g-z", false}, {"g\x00-z", true}, {"h-z", true},
	} {
		v := version(three(place(6, 1, "c-d", 300), at(8, 2, "a-c"), at(9, 2, "d-g"), at(7, 3, x.other))...)
		picks(t, v, 256, job(v, 1, list(6), list(8, 9), x.bottom), true)
		v = version(at(44, 0, "c-d"), at(43, 0, "c-c"), at(42, 0, "d-d"), at(41, 0, "d-d"), at(8, 1, "a-c"), at(9, 1, "d-g"), at(7, 2, x.other))
		picks(t, v, 256, job(v, 0, list(44, 43, 42, 41), list(8, 9), x.bottom), true)
	}
}

// P12.1: nothing of a version that may not be, or of a level below 1.
func TestPickOfWhatMayNotBe(t *testing.T) {
	good := version(at(44, 0, "c-d"), at(43, 0, "c-c"), at(42, 0, "g-g"), at(41, 0, "d-d"), at(5, 1, "a-b"), at(6, 1, "c-d"))
	for _, level := range []int64{0, -1, -256, math.MinInt64, math.MinInt64 + 1, -1 << 32} {
		picks(t, good, level, api.Job{}, false)
		picks(t, version(), level, api.Job{}, false)
	}
	picks(t, good, 1, job(good, 0, list(44, 43, 42, 41), list(6), true), true)
	for i := range good.Tables {
		for _, change := range []func(at *api.TableAt){
			func(at *api.TableAt) { at.Number = 0 }, func(at *api.TableAt) { at.Number = 80 }, func(at *api.TableAt) { at.Number = 90 }, func(at *api.TableAt) { at.Number = 91 },
			func(at *api.TableAt) { at.Level = -1 }, func(at *api.TableAt) { at.Level = 4 }, func(at *api.TableAt) { at.Size = 0 }, func(at *api.TableAt) { at.First = nil },
			func(at *api.TableAt) { at.Last = nil }, func(at *api.TableAt) { at.First = []byte("z") }, func(at *api.TableAt) { at.Last = []byte(strings.Repeat("z", 33)) },
		} {
			v := good
			v.Tables = deep(v.Tables)
			change(&v.Tables[i])
			picks(t, v, 256, api.Job{}, false)
		}
	}
	for _, change := range []func(v *api.Version){
		func(v *api.Version) { v.Next = 44 }, func(v *api.Version) { v.Next = 80 }, func(v *api.Version) { v.Next = 0 }, func(v *api.Version) { v.Log = 5 }, func(v *api.Version) { v.Index = -1 }, func(v *api.Version) { v.Seq = api.MaxNumber + 1 },
		func(v *api.Version) { v.Tables[4].Last = []byte("c") }, func(v *api.Version) { v.Tables[0], v.Tables[1] = v.Tables[1], v.Tables[0] }, func(v *api.Version) { *v = api.Version{} },
	} {
		v := good
		v.Tables = deep(v.Tables)
		change(&v)
		picks(t, v, 256, api.Job{}, false)
	}
}

// P12.1: many versions, held against a model.
func TestPickOfMany(t *testing.T) {
	counts := map[string]int{}
	for seed := range uint32(6000) {
		next := chance(seed)
		level := int64(1 + next(400))
		v := someVersion(next, level)
		if !edit.May(v) {
			t.Fatalf("may not be: %v", v)
		}
		want, is := jobOf(v, level)
		picks(t, v, level, want, is)
		counts[text([]any{is, want.Level, want.Bottom})]++
	}
	for _, kind := range []string{"[false 0 false]", "[true 0 false]", "[true 0 true]", "[true 1 false]", "[true 1 true]", "[true 2 true]"} {
		if counts[kind] < 50 {
			t.Errorf("%v", counts)
		}
	}
}

// P12.1 (and the rules for all layers): a job is the caller's, in new memory.
func TestPickIsNewMemory(t *testing.T) {
	v := version(at(44, 0, "c-d"), at(43, 0, "c-c"), at(42, 0, "g-g"), at(41, 0, "d-d"), at(5, 1, "a-c"), at(6, 1, "d-d"))
	w := version(place(5, 1, "a-c", 300), at(6, 1, "d-d"), at(7, 2, "b-e"))
	for _, v := range []api.Version{v, w} {
		was := text(v)
		j, _ := compact.Pick(v, 256)
		in, below := text(j.In), text(j.Below)
		spoil(j.In)
		if text(j.Below) != below || text(v) != was {
			t.Errorf("In shares memory: %v, %v", j, v)
		}
		j, _ = compact.Pick(v, 256)
		spoil(j.Below)
		if text(j.In) != in || text(v) != was {
			t.Errorf("Below shares memory: %v, %v", j, v)
		}
		j, _ = compact.Pick(v, 256)
		_, _ = append(j.In, at(9, 9, "!-!")), append(j.Below, at(9, 9, "!-!"))
		if text(j.In) != in || text(j.Below) != below {
			t.Errorf("In and Below share memory: %v", j)
		}
	}
}

// spoil overwrites places, their keys, and what is behind these in their memory.
func spoil(l []api.TableAt) {
	for i, at := range l {
		for _, b := range [][]byte{at.First, at.Last} {
			for j := range b {
				b[j] = '!'
			}
			_ = append(b, "!!!!!!!!"...)
		}
		l[i] = api.TableAt{}
	}
}
