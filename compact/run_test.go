package compact_test

import (
	"fmt"
	"math"
	"slices"
	"strings"
	"testing"

	"hectare/api"
	"hectare/compact"
	"hectare/ikey"
	"hectare/table"
)

// lists are what read takes of each text.
func lists(texts ...string) [][]api.Entry {
	var all [][]api.Entry
	for _, text := range texts {
		all = append(all, read(text))
	}
	return all
}

// keyed are n puts of one key each, all with that number.
func keyed(from, n int, seq int64) []api.Entry {
	var l []api.Entry
	for i := range n {
		l = append(l, put(fmt.Sprintf("k%05d", from+i), seq, ""))
	}
	return l
}

// versions are n puts of one key, the last number of which is most.
func versions(key string, n int, most int64) []api.Entry {
	var l []api.Entry
	for i := range n {
		l = append(l, put(key, most-int64(i), ""))
	}
	return l
}

// P12.2: what is kept of all, run together, at the floor, with or without what lies below.
func TestRun(t *testing.T) {
	for _, x := range []struct {
		want   string
		floor  int64
		bottom bool
		of     []string
	}{
		{"a6x a5 b2 c3", 5, false, []string{"a5 b2", "a6x a1 c3"}}, {"b2 c3", 9, true, []string{"a5 b2", "a6x a1 c3"}}, {"a6x b2 c3", 9, false, []string{"a5 b2", "a6x a1 c3"}}, {"a6x a5 a1 b2 c3", 0, true, []string{"a5 b2", "a6x a1 c3"}},
		{"a6x a5 b2 c3", 5, true, []string{"a6x a1 c3", "a5 b2"}}, {"a5", 9, false, []string{"a5"}}, {"a5", 4, true, []string{"a5"}}, {"a5x", 9, false, []string{"a5x"}}, {"a5x", 4, true, []string{"a5x"}}, {"a5 b9 c1", 9, true, []string{"c1", "a5", "b9"}},
		{"a7 b6 c5 d4", 9, false, []string{"d4", "c5 d3", "b6 c4 d2", "a7 b5 c3 d1"}}, {"a7 b6 b5x c5", 5, false, []string{"a7 b5x", "b6 c5"}}, {"a7 b6 c5", 5, true, []string{"a7 b5x", "b6 c5"}}, {"b1", math.MaxInt64, true, []string{"a9x", "a3 b1"}}, {"a9x a3 b1", math.MinInt64, true, []string{"a9x", "a3 b1"}},
	} {
		runs(t, lists(x.want), x.floor, math.MaxInt, x.bottom, lists(x.of...)...)
	}
}

// P12.2: of one key and number that of the first table that has it, in the order in which they are given: In's first.
func TestRunOfOnePlace(t *testing.T) {
	for _, x := range []struct {
		want string
		of   []string
	}{
		{"a5=u b3=v", []string{"a5=u", "a5=w b3=v"}}, {"a5=w b3=v", []string{"a5=w b3=v", "a5=u"}}, {"a5x", []string{"a5x", "a5=u"}}, {"a5=u", []string{"a5=u", "a5x"}}, {"a5=u b4=q c1=w", []string{"c1=w", "a5=u b4=q", "a5=v b4=r c1=x", "b4=s c1=y"}},
	} {
		runs(t, lists(x.want), 9, 999, false, lists(x.of...)...)
	}
	given := files(t, lists("a5=u", "a5=v", "a5=w", "a5=s")...)
	for in := range 5 {
		for i := range given {
			turned := slices.Concat(given[i:], given[:i])
			out, no := compact.Run(of(4, in, false), turned, 9, 1)
			if no != api.OK || len(out) != 1 || string(out[0]) != string(turned[0]) {
				t.Errorf("of 4, %d In, from %d on: %v", in, i, no)
			}
		}
	}
}

// P12.2: nothing left: no tables.
func TestRunToNothing(t *testing.T) {
	runs(t, nil, 9, 1, true)
	runs(t, nil, 9, 1, false)
	runs(t, nil, 9, 1, true, lists("a5x")...)
	runs(t, nil, 9, 1, true, lists("a5x b7x", "a3 b2", "a1 b1x")...)
	runs(t, nil, 5, 1, true, lists("a5x", "a4")...)
	runs(t, lists("a5x"), 4, 1, true, lists("a5x")...)
	runs(t, lists("a5x"), 9, 1, false, lists("a5x")...)
	for _, j := range []api.Job{{}, {Level: 3, Bottom: true}, {Level: -1}} {
		if out, no := compact.Run(j, nil, 0, 1); out != nil || no != api.OK {
			t.Errorf("Run(%v, nil): %d, %v", j, len(out), no)
		}
		if out, no := compact.Run(j, [][]byte{}, 0, 1); out != nil || no != api.OK {
			t.Errorf("Run(%v, none): %d, %v", j, len(out), no)
		}
	}
}

// P12.2: parts are cut off as soon as their entries' bytes have come to size (a5 has five, a5=w six, a5x four), behind a key's last entry.
func TestRunInParts(t *testing.T) {
	for _, x := range []struct {
		size int
		want []string
	}{
		{1, []string{"a9 a8", "b7x", "c6=w c5 c4", "d1", "e2"}}, {4, []string{"a9 a8", "b7x", "c6=w c5 c4", "d1", "e2"}}, {5, []string{"a9 a8", "b7x c6=w c5 c4", "d1", "e2"}},
		{6, []string{"a9 a8", "b7x c6=w c5 c4", "d1 e2"}}, {10, []string{"a9 a8", "b7x c6=w c5 c4", "d1 e2"}}, {11, []string{"a9 a8 b7x", "c6=w c5 c4", "d1 e2"}}, {14, []string{"a9 a8 b7x", "c6=w c5 c4", "d1 e2"}},
		{15, []string{"a9 a8 b7x c6=w c5 c4", "d1 e2"}}, {16, []string{"a9 a8 b7x c6=w c5 c4", "d1 e2"}}, {30, []string{"a9 a8 b7x c6=w c5 c4", "d1 e2"}}, {31, []string{"a9 a8 b7x c6=w c5 c4 d1", "e2"}},
		{35, []string{"a9 a8 b7x c6=w c5 c4 d1", "e2"}}, {36, []string{"a9 a8 b7x c6=w c5 c4 d1 e2"}}, {40, []string{"a9 a8 b7x c6=w c5 c4 d1 e2"}}, {41, []string{"a9 a8 b7x c6=w c5 c4 d1 e2"}}, {1 << 32, []string{"a9 a8 b7x c6=w c5 c4 d1 e2"}}, {math.MaxInt, []string{"a9 a8 b7x c6=w c5 c4 d1 e2"}},
	} {
		runs(t, lists(x.want...), 0, x.size, false, lists("a9 b7x c5 d1", "a8 c6=w c4 e2")...)
	}
	runs(t, lists("a9 c6=w", "d1 e2"), 9, 11, true, lists("a9 b7x c5 d1", "a8 c6=w c4 e2")...)
	runs(t, lists("a9 b7x c6=w", "d1 e2"), 9, 15, false, lists("a9 b7x c5 d1", "a8 c6=w c4 e2")...)
}

// P12.2: what is cut off is said by the entries' bytes, not by those of the table, and not by their values' alone.
func TestRunInPartsOfGreatEntries(t *testing.T) {
	l := []api.Entry{put("a", 3, strings.Repeat("v", api.MaxBlob)), put("b", 3, strings.Repeat("v", 121)), put(strings.Repeat("c", 32), 3, ""), del(strings.Repeat("d", 32), api.MaxNumber)}
	sizes := []int{65543, 126, 36, 39}
	for i, e := range l {
		if ikey.Size(e) != sizes[i] {
			t.Fatalf("%d: %d", i, ikey.Size(e))
		}
	}
	runs(t, [][]api.Entry{l[:1], l[1:]}, 0, 65543, false, l)
	runs(t, [][]api.Entry{l[:2], l[2:]}, 0, 65544, false, l)
	runs(t, [][]api.Entry{l[:2], l[2:]}, 0, 65669, false, l)
	runs(t, [][]api.Entry{l[:3], l[3:]}, 0, 65670, false, l)
	runs(t, [][]api.Entry{l[:1], l[1:2], l[2:]}, 0, 75, false, l)
	runs(t, [][]api.Entry{l[:1], l[1:2], l[2:3], l[3:]}, 0, 36, false, l)
}

// P12.2: no part goes on behind a key with which it has come to MaxEntries / 2, whatever their bytes.
func TestRunInPartsOfManyEntries(t *testing.T) {
	const half = api.MaxEntries / 2
	for _, n := range []int{half - 1, half, half + 1, api.MaxEntries - 1, api.MaxEntries} {
		l := keyed(0, n, 7)
		want := [][]api.Entry{l}
		if n > half {
			want = [][]api.Entry{l[:half], l[half:]}
		}
		runs(t, want, 9, math.MaxInt, true, l)
	}
	l := keyed(0, 2*half+900, 7)
	runs(t, [][]api.Entry{l[:half], l[half : 2*half], l[2*half:]}, 9, math.MaxInt, true, l[:half+33], l[half+33:])
	runs(t, [][]api.Entry{l[:half], l[half : 2*half], l[2*half:]}, 9, 1<<20, true, l[900:], l[:900])
	runs(t, [][]api.Entry{l[:half-1], l[half-1 : 2*half-2], l[2*half-2 : 2*half+900]}, 9, (half-1)*10, true, l[:half+33], l[half+33:])
}

// P12.2: the entries of one key stand in one part, however many they are; a key that would be too much for a table, with what is ahead of it, begins a part.
func TestRunOfKeysOfManyEntries(t *testing.T) {
	const half = api.MaxEntries / 2
	for _, x := range []struct{ ahead, of, behind int }{
		{0, half - 1, 1}, {0, half, 1}, {0, half + 1, 1}, {0, api.MaxEntries - 1, 1}, {0, api.MaxEntries, 1}, {0, api.MaxEntries, 0}, {0, half - 2, 3},
		{1, half - 2, 1}, {1, half - 1, 1}, {1, half, 1}, {1, api.MaxEntries - 1, 1}, {1, api.MaxEntries, 1}, {half - 1, 1, 1}, {half - 1, 2, 1}, {half - 1, half, 1}, {half - 1, half + 1, 1}, {half - 1, half + 2, 1}, {half, 3, 1}, {half, api.MaxEntries, 1}, {77, 4018, 9}, {77, 4019, 9}, {77, 4020, 9},
	} {
		first, many, last := keyed(0, x.ahead, 7), versions("l", x.of, 9000), versions("m", x.behind, 70)
		var want [][]api.Entry
		part := slices.Concat(first, many)
		if x.ahead >= half || x.ahead > 0 && len(part) > api.MaxEntries {
			want = append(want, first)
			part = many
		}
		if len(part) >= half {
			want = append(want, part)
			part = nil
		}
		if part = append(slices.Clone(part), last...); len(part) > 0 {
			want = append(want, part)
		}
		runs(t, want, 0, math.MaxInt, false, slices.DeleteFunc([][]api.Entry{slices.Concat(first, last), many}, func(l []api.Entry) bool { return len(l) == 0 })...)
	}
	runs(t, [][]api.Entry{versions("l", 4096, 9000)}, 4905, 1, false, versions("l", 4000, 9000), versions("l", 1000, 5000))
	runs(t, [][]api.Entry{versions("l", 1, 9000)}, 9000, 1, false, versions("l", 4000, 9000), versions("l", 1000, 5000))
}

// P12.2: a key of which more is kept than a table has entries has no tables: parts that may not be.
func TestRunOfTooManyOfOneKey(t *testing.T) {
	for _, more := range [][]api.Entry{nil, read("a5"), read("z5"), read("a5 z5")} {
		given := files(t, versions("l", 4096, 9000), append(versions("l", 1, 2), versions("m", 1, 2)...))
		if more != nil {
			given = append(given, written(t, more...))
		}
		refuses(t, api.ErrArg, of(len(given), 1, true), given, 0, math.MaxInt)
		refuses(t, api.ErrArg, of(len(given), 1, true), given, 1, 1)
		if out, no := compact.Run(of(len(given), 1, true), given, 4905, math.MaxInt); no != api.OK || len(out) < 1 {
			t.Errorf("at a floor that keeps 4096: %d, %v", len(out), no)
		}
	}
}

// P12.2: ErrArg: as many as there are; a size below 1; ahead of ErrCorrupt.
func TestRunOfWrongArguments(t *testing.T) {
	good := files(t, lists("a5", "b5", "c5", "d5")...)
	bad := [][]byte{nil, {1}, nil, {}}
	for n := range 4 {
		for in := range n + 1 {
			for given := range 5 {
				if given == n {
					continue
				}
				refuses(t, api.ErrArg, of(n, in, true), good[:given], 9, 1)
				refuses(t, api.ErrArg, of(n, in, true), bad[:given], 9, 1)
			}
			for _, size := range []int{0, -1, -2, math.MinInt, math.MinInt + 1, -1 << 32} {
				refuses(t, api.ErrArg, of(n, in, true), good[:n], 9, size)
				refuses(t, api.ErrArg, of(n, in, true), bad[:n], 9, size)
			}
		}
	}
}

// P12.2: ErrCorrupt: one, whichever, that layer 9 does not open.
func TestRunOfCorruptTables(t *testing.T) {
	good := files(t, lists("a5 b3", "b5x", "c5=w", "d5")...)
	for n := 1; n <= 4; n++ {
		for i := range n {
			whole := good[i]
			for _, bytes := range [][]byte{nil, {}, {0}, whole[1:], whole[:len(whole)-1], append(slices.Clone(whole), 0), slices.Concat(whole, whole), make([]byte, 28), []byte(strings.Repeat("\xff", 61))} {
				given := slices.Clone(good[:n])
				given[i] = bytes
				for _, floor := range []int64{math.MinInt64, 0, 9, math.MaxInt64} {
					refuses(t, api.ErrCorrupt, of(n, n/2, true), given, floor, 1)
				}
			}
			for k := range whole {
				given := slices.Clone(good[:n])
				given[i] = slices.Clone(whole)
				given[i][k] ^= 0x10
				refuses(t, api.ErrCorrupt, of(n, 1, false), given, 9, math.MaxInt)
			}
		}
	}
}

// P12.2: what a job says of its tables but how many they are, and but Bottom, says nothing of what comes.
func TestRunHangsOnHowMany(t *testing.T) {
	given := files(t, lists("c6x d5", "a9x b3", "e5")...)
	want := lists("b3", "d5", "e5")
	for _, j := range []api.Job{
		{Bottom: true, In: make([]api.TableAt, 3)}, {Bottom: true, Below: make([]api.TableAt, 3)}, {Bottom: true, Level: 9, In: make([]api.TableAt, 1), Below: make([]api.TableAt, 2)},
		{Bottom: true, Level: -1, In: []api.TableAt{at(1, 0, "x-z")}, Below: []api.TableAt{at(1, 0, "d-d"), at(1, 0, "z-a")}},
	} {
		out, no := compact.Run(j, given, 9, 1)
		if no != api.OK || text(out) != text(files(t, want...)) {
			t.Errorf("Run(%v): %d, %v", j, len(out), no)
		}
	}
}

// P12.2: many tables, held against a model.
func TestRunOfMany(t *testing.T) {
	most := 0
	for seed := range uint32(900) {
		next := chance(seed)
		var given [][]api.Entry
		for range next(6) {
			given = append(given, some(next, 1+next(25)))
		}
		all := joined(given...)
		for range 4 {
			floor, size, bottom := int64(next(12)-1), 1+next(1+next(200)), next(2) > 0
			want := parted(needed(all, floor, bottom), size)
			runs(t, want, floor, size, bottom, given...)
			most = max(most, len(want))
		}
	}
	if most < 8 {
		t.Errorf("at most %d tables", most)
	}
}

// P12.2 (and the rules for all layers): the tables are the caller's, in new memory; and they are what layer 9 writes.
func TestRunIsNewMemory(t *testing.T) {
	given := files(t, lists("a5=u b4", "c3=w")...)
	was := text(given)
	j := of(2, 1, false)
	first, _ := compact.Run(j, given, 9, 1)
	want := text(files(t, lists("a5=u", "b4", "c3=w")...))
	if text(first) != want {
		t.Fatalf("%v", first)
	}
	for i, b := range first {
		for k := range b {
			b[k] = '!'
		}
		_ = append(b, "!!!!!!!!"...)
		first[i] = nil
	}
	if again, _ := compact.Run(j, given, 9, 1); text(again) != want || text(given) != was {
		t.Errorf("what is answered shares memory")
	}
	one, _ := compact.Run(of(1, 1, false), given[:1], 9, 99)
	for k := range given[0] {
		given[0][k] = '!'
	}
	if got, no := table.Open(one[0]); no != api.OK || got.Len() != 2 {
		t.Errorf("what is answered shares memory with what is handed in")
	}
}
