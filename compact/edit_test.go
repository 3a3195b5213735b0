package compact_test

import (
	"math"
	"slices"
	"strings"
	"testing"

	"hectare/api"
	"hectare/compact"
	"hectare/edit"
)

// edits says that Edit answers this, that it may be done, and that nothing is changed.
func edits(t *testing.T, v api.Version, j api.Job, out [][]byte, want api.Edit) {
	t.Helper()
	was := text(v) + text(j) + text(out)
	got, no := compact.Edit(v, j, out)
	if no != api.OK || text(got) != text(want) {
		t.Fatalf("Edit(%v, %v, of %d): %v, %v; want %v", v, j, len(out), got, no, want)
	}
	if _, no := edit.Do(v, got); no != api.OK {
		t.Fatalf("Edit(%v, %v, of %d): %v: may not be done: %v", v, j, len(out), got, no)
	}
	if text(v)+text(j)+text(out) != was {
		t.Fatalf("Edit changes what it is given: %s", was)
	}
}

// noEdit says that Edit is refused, and changes nothing.
func noEdit(t *testing.T, v api.Version, j api.Job, out [][]byte) {
	t.Helper()
	was := text(v) + text(j) + text(out)
	got, no := compact.Edit(v, j, out)
	if no != api.ErrArg {
		t.Fatalf("Edit(%v, %v, of %d): %v, %v", v, j, len(out), got, no)
	}
	isZero(t, got)
	if text(v)+text(j)+text(out) != was {
		t.Fatalf("Edit changes what it is given: %s", was)
	}
}

// plain is the edit of a version that drops these and adds those.
func plain(v api.Version, drop []int64, add ...api.TableAt) api.Edit {
	return api.Edit{Drop: drop, Add: add, Next: v.Next + int64(len(add)), Log: v.Log, Index: v.Index, Seq: v.Seq}
}

// sized is a table's place, of as many bytes as it has.
func sized(number int64, level int, keys string, b []byte) api.TableAt {
	return place(number, level, keys, int64(len(b)))
}

// levels is a version of tables of all levels.
func levels() api.Version {
	return version(at(44, 0, "c-d"), at(43, 0, "a-c"), at(42, 0, "g-g"), at(41, 0, "d-d"), at(5, 1, "a-c"), at(16, 1, "d-f"), at(7, 1, "p-q"), at(28, 2, "b-c"), at(19, 2, "e-m"), at(21, 2, "n-z"), at(30, 3, "a-k"), at(31, 3, "m-n"))
}

// P12.3: In's and Below's go, out comes at the level below, by the numbers from Next on.
func TestEdit(t *testing.T) {
	v := levels()
	j := job(v, 0, list(44, 43, 42, 41), list(5, 16), false)
	out := files(t, lists("a5 b3", "c7x", "d1 dd2 o3")...)
	edits(t, v, j, out, plain(v, list(44, 43, 42, 41, 5, 16), sized(90, 1, "a-b", out[0]), sized(91, 1, "c-c", out[1]), sized(92, 1, "d-o", out[2])))
	edits(t, v, j, out[:1], plain(v, list(44, 43, 42, 41, 5, 16), sized(90, 1, "a-b", out[0])))
	edits(t, v, j, nil, plain(v, list(44, 43, 42, 41, 5, 16)))
	edits(t, v, j, [][]byte{}, plain(v, list(44, 43, 42, 41, 5, 16)))
	j = job(v, 1, list(16), list(19), false)
	out = files(t, lists("d9=w e5", "m9 m8 m7 m6")...)
	edits(t, v, j, out, plain(v, list(16, 19), sized(90, 2, "d-e", out[0]), sized(91, 2, "m-m", out[1])))
	j = job(v, 2, list(21), list(31), true)
	out = files(t, lists("m5 n5=w n2", "o1 z9")...)
	edits(t, v, j, out, plain(v, list(21, 31), sized(90, 3, "m-n", out[0]), sized(91, 3, "o-z", out[1])))
	edits(t, v, job(v, 2, list(28), nil, true), nil, plain(v, list(28)))
	v.Next, v.Log, v.Index, v.Seq = 2000, 1999, 0, api.MaxNumber
	edits(t, v, j, out, api.Edit{Drop: list(21, 31), Add: []api.TableAt{sized(2000, 3, "m-n", out[0]), sized(2001, 3, "o-z", out[1])}, Next: 2002, Log: 1999, Seq: api.MaxNumber})
}

// P12.3: what out's tables are is told of them as they are: their least and greatest key, their bytes.
func TestEditOfGreatTables(t *testing.T) {
	v := version(three(at(7, 1, "a-z"))...)
	long := strings.Repeat("\xff", 32)
	l := slices.Concat(keyed(0, 3000, 9), []api.Entry{put(long, api.MaxNumber, strings.Repeat("v", api.MaxBlob)), del(long, 1)})
	out := files(t, l, []api.Entry{del("\x00", 1)})
	if len(out[0]) < 65536 {
		t.Fatal(len(out[0]))
	}
	edits(t, v, job(v, 1, list(7), nil, true), out, plain(v, list(7), sized(90, 2, "k00000-"+long, out[0]), sized(91, 2, "\x00-\x00", out[1])))
}

// P12.3: numbers up to the greatest one.
func TestEditAtTheLastNumbers(t *testing.T) {
	out := files(t, lists("a5", "b5", "c5")...)
	for n := range 5 {
		v := version(three(at(7, 1, "a-z"))...)
		v.Next = api.MaxNumber - 2 + int64(n) - 2
		for have := range 4 {
			j := job(v, 1, list(7), nil, true)
			if v.Next+int64(have) > api.MaxNumber {
				noEdit(t, v, j, out[:have])
				continue
			}
			want := plain(v, list(7))
			for i := range have {
				key := string(rune('a' + i))
				want.Add = append(want.Add, sized(v.Next+int64(i), 2, key+"-"+key, out[i]))
			}
			want.Next += int64(have)
			edits(t, v, j, out[:have], want)
		}
	}
}

// P12.3: ErrArg: a version that may not be.
func TestEditOfNoVersion(t *testing.T) {
	v := levels()
	j := job(v, 1, list(16), list(19), false)
	out := files(t, lists("d9 e5")...)
	edits(t, v, j, out, plain(v, list(16, 19), sized(90, 2, "d-e", out[0])))
	noEdit(t, api.Version{}, api.Job{}, nil)
	noEdit(t, api.Version{}, j, out)
	noEdit(t, api.Version{Next: 1}, j, out)
	edits(t, api.Version{Next: 1}, api.Job{}, nil, api.Edit{Next: 1})
	for _, change := range []func(v *api.Version){
		func(v *api.Version) { v.Next = 44 }, func(v *api.Version) { v.Next = 80 }, func(v *api.Version) { v.Next = api.MaxNumber + 1 }, func(v *api.Version) { v.Log = 21 }, func(v *api.Version) { v.Log = -1 }, func(v *api.Version) { v.Index = -1 },
		func(v *api.Version) { v.Seq = api.MaxNumber + 1 }, func(v *api.Version) { v.Tables[0].Size = 0 }, func(v *api.Version) { v.Tables[11].Level = 4 }, func(v *api.Version) { v.Tables[4].Last = []byte("d") },
		func(v *api.Version) { v.Tables[8].First = nil }, func(v *api.Version) { v.Tables[2], v.Tables[3] = v.Tables[3], v.Tables[2] }, func(v *api.Version) { v.Tables[3].Number = 5 },
	} {
		w := levels()
		change(&w)
		noEdit(t, w, j, out)
		noEdit(t, w, j, nil)
		noEdit(t, w, api.Job{Level: 1}, nil)
	}
}

// P12.3: ErrArg: a job whose tables are not there, at its level and the next one.
func TestEditOfNoJob(t *testing.T) {
	v := levels()
	out := files(t, lists("d9 e5")...)
	for level := -2; level < 7; level++ {
		for _, l := range [][2][]int64{{list(44, 43, 42, 41), list(5, 16)}, {list(16), list(19)}, {list(28), list(30)}, {list(28), nil}, {list(30), nil}, {nil, list(5)}, {nil, list(44)}} {
			j := job(v, level, l[0], l[1], false)
			is := true
			for i, n := range slices.Concat(l[0], l[1]) {
				want := level
				if i >= len(l[0]) {
					want++
				}
				is = is && slices.ContainsFunc(v.Tables, func(at api.TableAt) bool { return at.Number == n && at.Level == want })
			}
			if is && level >= 0 && level < 3 {
				edits(t, v, j, nil, plain(v, slices.Concat(l[0], l[1])))
			} else {
				noEdit(t, v, j, nil)
				noEdit(t, v, j, out)
			}
		}
	}
	for _, level := range []int{3, 4, -1, 1 << 32, math.MaxInt, math.MaxInt - 1, math.MinInt} {
		noEdit(t, v, api.Job{Level: level}, out)
		noEdit(t, v, api.Job{Level: level}, nil)
	}
}

// P12.3: ErrArg: each of a job's tables is another one than the version's, or there twice.
func TestEditOfAnotherTable(t *testing.T) {
	v := levels()
	out := files(t, lists("d9 e5")...)
	for _, change := range []func(at *api.TableAt){
		func(at *api.TableAt) { at.Number = 0 }, func(at *api.TableAt) { at.Number = 6 }, func(at *api.TableAt) { at.Number += 1 << 32 }, func(at *api.TableAt) { at.Number = -at.Number }, func(at *api.TableAt) { at.Number = 80 }, func(at *api.TableAt) { at.Number = 90 },
		func(at *api.TableAt) { at.Level++ }, func(at *api.TableAt) { at.Level-- }, func(at *api.TableAt) { at.Size++ }, func(at *api.TableAt) { at.Size = 0 }, func(at *api.TableAt) { at.First = []byte("0") }, func(at *api.TableAt) { at.First = nil },
		func(at *api.TableAt) { at.Last = append(slices.Clone(at.Last), 0) }, func(at *api.TableAt) { at.Last = nil }, func(at *api.TableAt) { *at = api.TableAt{} },
	} {
		for i := range 6 {
			j := job(v, 0, list(44, 43, 42, 41), list(5, 16), false)
			edits(t, v, j, out, plain(v, list(44, 43, 42, 41, 5, 16), sized(90, 1, "d-e", out[0])))
			if i < 4 {
				change(&j.In[i])
			} else {
				change(&j.Below[i-4])
			}
			noEdit(t, v, j, out)
			noEdit(t, v, j, nil)
		}
	}
	for _, j := range []api.Job{job(v, 0, list(44, 44), nil, false), job(v, 0, list(44, 43, 44), list(5), false), job(v, 0, list(44), list(5, 5), false), job(v, 0, list(44, 5), list(16), false), job(v, 0, list(44), list(5, 43), false), job(v, 0, list(5), list(44), false)} {
		noEdit(t, v, j, nil)
		noEdit(t, v, j, out)
	}
	w := version(at(5, 1, "a-c"))
	w.Tables[0].Level = 2
	noEdit(t, w, job(levels(), 1, list(5), nil, false), nil)
}

// P12.3: ErrArg: an out that layer 9 does not open, whichever it is.
func TestEditOfCorruptTables(t *testing.T) {
	v := levels()
	j := job(v, 0, list(44, 43, 42, 41), list(5, 16), false)
	good := files(t, lists("a5 b3", "c7x", "d1 dd2 o3")...)
	for i, whole := range good {
		for _, bytes := range [][]byte{nil, {}, {0}, whole[1:], whole[:len(whole)-1], append(slices.Clone(whole), 0), slices.Concat(whole, whole), make([]byte, 28)} {
			out := slices.Clone(good)
			out[i] = bytes
			noEdit(t, v, j, out)
			noEdit(t, v, api.Job{Level: 1}, out[i:i+1])
		}
		for k := range whole {
			out := slices.Clone(good)
			out[i] = slices.Clone(whole)
			out[i][k] ^= 0x08
			noEdit(t, v, j, out)
		}
	}
}

// P12.3: ErrArg: outs whose keys overlap, with one another or with what stays at that level.
func TestEditOfKeysThatOverlap(t *testing.T) {
	v := levels()
	j := job(v, 0, list(44, 43, 42, 41), list(5, 16), false)
	for _, x := range []struct {
		of []string
		is bool
	}{
		{[]string{"a5 c3", "c2 d5"}, false}, {[]string{"a5 c3", "b2"}, false}, {[]string{"b2", "a5 c3"}, false}, {[]string{"a5", "a5"}, false}, {[]string{"a5", "a4"}, false}, {[]string{"a5", "a\x005"}, true}, {[]string{"a5 b5", "c5", "b7"}, false}, {[]string{"b7", "c5", "a5 bb5"}, false},
		{[]string{"o5"}, true}, {[]string{"o5 p1"}, false}, {[]string{"p1"}, false}, {[]string{"pp1"}, false}, {[]string{"o1 r1"}, false}, {[]string{"q1 r1"}, false}, {[]string{"qq1"}, true}, {[]string{"a1", "c1 q1"}, false}, {[]string{"r1 z1", "a1 o9"}, true}, {[]string{"c1", "a1", "b1"}, true},
		{[]string{"b1 f1", "e1 k1"}, false}, {[]string{"b1 f1", "ff1 k1"}, true}, {[]string{"a1 o1", "s1 t1", "b1"}, false},
	} {
		out := files(t, lists(x.of...)...)
		if !x.is {
			noEdit(t, v, j, out)
			continue
		}
		want := plain(v, list(44, 43, 42, 41, 5, 16))
		for i, text := range x.of {
			l := read(text)
			want.Add = append(want.Add, sized(90+int64(i), 1, string(l[0].Key)+"-"+string(l[len(l)-1].Key), out[i]))
			want.Next++
		}
		edits(t, v, j, out, want)
	}
	noEdit(t, v, job(v, 0, list(44, 43, 42, 41), list(16), false), files(t, lists("c5")...))
	noEdit(t, v, job(v, 0, list(44, 43, 42, 41), list(5), false), files(t, lists("f5")...))
	noEdit(t, v, api.Job{Level: 2}, files(t, lists("b5 c5")...))
	edits(t, v, api.Job{Level: 2}, files(t, lists("l5")...), plain(v, nil, sized(90, 3, "l-l", files(t, lists("l5")...)[0])))
}

// P12.3 (and the rules for all layers): an edit is the caller's, in new memory.
func TestEditIsNewMemory(t *testing.T) {
	v := levels()
	j := job(v, 0, list(44, 43, 42, 41), list(5, 16), false)
	out := files(t, lists("a5", "c7x d3")...)
	was := text(v) + text(j) + text(out)
	first, _ := compact.Edit(v, j, out)
	want := text(first)
	for i := range first.Add {
		key := first.Add[i].First
		key[0] = '!'
		_ = append(key, "!!!!"...)
		if string(first.Add[i].Last) != []string{"a", "d"}[i] {
			t.Errorf("First and Last share memory")
		}
	}
	spoil(first.Add)
	for i := range first.Drop {
		first.Drop[i] = -1
	}
	again, _ := compact.Edit(v, j, out)
	if text(again) != want || text(v)+text(j)+text(out) != was {
		t.Errorf("what is answered shares memory: %v", again)
	}
	for _, b := range out {
		clear(b)
	}
	spoil(j.In)
	spoil(j.Below)
	if text(again) != want {
		t.Errorf("what is answered shares memory with what is handed in")
	}
}
