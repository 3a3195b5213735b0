package compact_test

import (
	"fmt"
	"math/big"
	"reflect"
	"slices"
	"strconv"
	"strings"
	"testing"

	"hectare/api"
	"hectare/compact"
	"hectare/edit"
	"hectare/ikey"
	"hectare/table"
)

// put is an entry that puts a value.
func put(key string, seq int64, value string) api.Entry {
	return api.Entry{Key: []byte(key), Seq: seq, Kind: api.KindPut, Value: []byte(value)}
}

// del is an entry that deletes.
func del(key string, seq int64) api.Entry {
	return api.Entry{Key: []byte(key), Seq: seq, Kind: api.KindDelete}
}

// read is the entries that a text tells: a5 puts the key a by the number 5, a5=w puts w, a5x deletes.
func read(text string) []api.Entry {
	var l []api.Entry
	for _, word := range strings.Fields(text) {
		word, value, _ := strings.Cut(word, "=")
		word, gone := strings.CutSuffix(word, "x")
		at := strings.IndexAny(word, "0123456789")
		seq, _ := strconv.ParseInt(word[at:], 10, 64)
		if gone {
			l = append(l, del(word[:at], seq))
		} else {
			l = append(l, put(word[:at], seq, value))
		}
	}
	return l
}

// tell says entries in short, as read takes them.
func tell(l ...api.Entry) string {
	var words []string
	for _, e := range l[:min(len(l), 300)] {
		word := strings.Trim(strconv.Quote(string(e.Key)), `"`) + strconv.FormatInt(e.Seq, 10)
		if e.Kind == api.KindDelete {
			word += "x"
		}
		if len(e.Value) > 0 {
			word += "=" + string(e.Value[:min(len(e.Value), 9)])
		}
		words = append(words, word)
	}
	return strings.Join(words, " ")
}

// tellAll says lists of entries in short.
func tellAll(lists [][]api.Entry) string {
	var texts []string
	for _, l := range lists {
		texts = append(texts, tell(l...))
	}
	return strings.Join(texts, " | ")
}

// place is a table's place, of that size; keys stand as first-last.
func place(number int64, level int, keys string, size int64) api.TableAt {
	first, last, _ := strings.Cut(keys, "-")
	return api.TableAt{Number: number, Level: level, First: []byte(first), Last: []byte(last), Size: size}
}

// at is a table's place, of 100 bytes.
func at(number int64, level int, keys string) api.TableAt {
	return place(number, level, keys, 100)
}

// version is one of these tables, with numbers that are all different.
func version(tables ...api.TableAt) api.Version {
	return api.Version{Next: 90, Log: 80, Index: 50, Seq: 70, Tables: tables}
}

// three are tables of the level 0, as many as it holds.
func three(tables ...api.TableAt) []api.TableAt {
	return slices.Concat([]api.TableAt{at(73, 0, "a-z"), at(72, 0, "a-z"), at(71, 0, "a-z")}, tables)
}

// deep is places in new memory.
func deep(l []api.TableAt) []api.TableAt {
	l = slices.Clone(l)
	for i, t := range l {
		l[i].First, l[i].Last = slices.Clone(t.First), slices.Clone(t.Last)
	}
	return l
}

// numbers are those of places.
func numbers(l []api.TableAt) []int64 {
	var all []int64
	for _, t := range l {
		all = append(all, t.Number)
	}
	return all
}

// text says all of something; nil and empty lists are one.
func text(what any) string {
	return fmt.Sprintf("%v", what)
}

// isZero says that beside an error, or false, there is nothing.
func isZero(t *testing.T, got any) {
	t.Helper()
	if !reflect.ValueOf(got).IsZero() {
		t.Fatalf("beside an error, or false: %v", got)
	}
}

// picks says that Pick answers this job, or none, and changes nothing.
func picks(t *testing.T, v api.Version, level int64, want api.Job, is bool) {
	t.Helper()
	was := text(v)
	for range 2 {
		got, ok := compact.Pick(v, level)
		if text(got) != text(want) || ok != is {
			t.Fatalf("Pick(%v, %d): %v, %v; want %v, %v", v, level, got, ok, want, is)
		}
		if !ok {
			isZero(t, got)
		}
	}
	if text(v) != was {
		t.Fatalf("Pick changes %s to %v", was, v)
	}
}

// job is that of these numbers, of a version's tables.
func job(v api.Version, level int, in, below []int64, bottom bool) api.Job {
	find := func(some []int64) []api.TableAt {
		var l []api.TableAt
		for _, n := range some {
			i := slices.IndexFunc(v.Tables, func(t api.TableAt) bool { return t.Number == n })
			l = append(l, v.Tables[i])
		}
		return l
	}
	return api.Job{Level: level, In: find(in), Below: find(below), Bottom: bottom}
}

// jobOf is what is next, as the chapter's words have it.
func jobOf(v api.Version, level int64) (api.Job, bool) {
	if !edit.May(v) || level < 1 {
		return api.Job{}, false
	}
	var levels [5][]api.TableAt
	for _, t := range v.Tables {
		levels[t.Level] = append(levels[t.Level], t)
	}
	var j api.Job
	if len(levels[0]) > 3 {
		j.In = levels[0]
	}
	holds := big.NewInt(level)
	for l := 1; l < 3 && len(j.In) == 0; l++ {
		has := new(big.Int)
		for _, t := range levels[l] {
			has.Add(has, big.NewInt(t.Size))
		}
		if has.Cmp(holds) > 0 {
			j.Level = l
			j.In = slices.Clone(levels[l])
			slices.SortFunc(j.In, func(a, b api.TableAt) int { return int(a.Number - b.Number) })
			j.In = j.In[:1]
		}
		holds.Mul(holds, big.NewInt(10))
	}
	if len(j.In) == 0 {
		return api.Job{}, false
	}
	first, last := hull(j.In)
	for _, t := range levels[j.Level+1] {
		if meet(t, first, last) {
			j.Below = append(j.Below, t)
		}
	}
	j.Bottom = true
	first, last = hull(slices.Concat(j.In, j.Below))
	for l := j.Level + 2; l < 4; l++ {
		for _, t := range levels[l] {
			j.Bottom = j.Bottom && !meet(t, first, last)
		}
	}
	return j, true
}

// hull is the least and the greatest key of some tables.
func hull(l []api.TableAt) (string, string) {
	first, last := string(l[0].First), string(l[0].Last)
	for _, t := range l {
		first, last = min(first, string(t.First)), max(last, string(t.Last))
	}
	return first, last
}

// meet tells whether a table has keys from first to last.
func meet(t api.TableAt, first, last string) bool {
	return max(first, string(t.First)) <= min(last, string(t.Last))
}

// written are the bytes of a table of these entries.
func written(t *testing.T, l ...api.Entry) []byte {
	t.Helper()
	b, no := table.Write(l...)
	if no != api.OK {
		t.Fatalf("no table: %s: %v", tell(l...), no)
	}
	return b
}

// files are the bytes of tables of these lists.
func files(t *testing.T, lists ...[]api.Entry) [][]byte {
	t.Helper()
	var all [][]byte
	for _, l := range lists {
		all = append(all, written(t, l...))
	}
	return all
}

// entriesOf are a table's.
func entriesOf(t *testing.T, b []byte) []api.Entry {
	t.Helper()
	got, no := table.Open(b)
	if no != api.OK {
		t.Fatalf("no table's bytes: % x", b)
	}
	return slices.Collect(got.All())
}

// of is a job of n tables, the first ones at its level.
func of(n, in int, bottom bool) api.Job {
	j := api.Job{Level: 1, Bottom: bottom}
	for i := range n {
		if i < in {
			j.In = append(j.In, at(int64(i+1), 1, "a-z"))
		} else {
			j.Below = append(j.Below, at(int64(i+1), 2, "a-z"))
		}
	}
	return j
}

// runs says that tables of these lists become tables of those, whatever of them are In, and that nothing is changed.
func runs(t *testing.T, want [][]api.Entry, floor int64, size int, bottom bool, lists ...[]api.Entry) {
	t.Helper()
	given := files(t, lists...)
	was := text(given)
	for _, in := range []int{0, len(lists) / 2, len(lists)} {
		out, no := compact.Run(of(len(lists), in, bottom), given, floor, size)
		if no != api.OK {
			t.Fatalf("Run(%s; %d, %d, %v): %v", tellAll(lists), floor, size, bottom, no)
		}
		var got [][]api.Entry
		for _, b := range out {
			got = append(got, entriesOf(t, b))
		}
		same := func(a, b []api.Entry) bool { return slices.EqualFunc(a, b, ikey.Same) }
		if !slices.EqualFunc(got, want, same) {
			t.Fatalf("Run(%s; %d, %d, %v): %s, want %s", tellAll(lists), floor, size, bottom, tellAll(got), tellAll(want))
		}
	}
	if text(given) != was {
		t.Fatalf("Run(%s; ..) changes them", tellAll(lists))
	}
}

// refuses says that Run is refused so, and changes nothing.
func refuses(t *testing.T, want api.Errno, j api.Job, given [][]byte, floor int64, size int) {
	t.Helper()
	was := text(given) + text(j)
	out, no := compact.Run(j, given, floor, size)
	if no != want || out != nil {
		t.Fatalf("Run(%v, of %d, %d, %d): %d tables, %v; want %v", j, len(given), floor, size, len(out), no, want)
	}
	if text(given)+text(j) != was {
		t.Fatalf("Run changes what it is given")
	}
}

// joined is what orders are, run together: for each place that any has, the entry of the first that has it.
func joined(lists ...[]api.Entry) []api.Entry {
	var l []api.Entry
	at := map[string]int{}
	for _, list := range lists {
		for _, e := range list {
			where := strconv.Quote(string(e.Key)) + strconv.FormatInt(e.Seq, 10)
			if at[where] == 0 {
				at[where] = 1
				l = append(l, e)
			}
		}
	}
	slices.SortFunc(l, func(a, b api.Entry) int {
		if a, b := string(a.Key), string(b.Key); a != b {
			return strings.Compare(a, b)
		}
		return int(b.Seq - a.Seq)
	})
	return l
}

// needed is what is kept of an order: by key all above floor, and what is seen at floor; of the latter no delete, if bottom.
func needed(l []api.Entry, floor int64, bottom bool) []api.Entry {
	var k []api.Entry
	seen := map[string]int{}
	for _, e := range l {
		if e.Seq > floor {
			k = append(k, e)
			continue
		}
		seen[string(e.Key)]++
		if seen[string(e.Key)] == 1 && !(bottom && e.Kind == api.KindDelete) {
			k = append(k, e)
		}
	}
	return k
}

// parted are the parts of an order that come to size, or to so many entries, each with all entries of its keys.
func parted(l []api.Entry, size int) [][]api.Entry {
	var parts [][]api.Entry
	var part []api.Entry
	bytes := 0
	for i, e := range l {
		part = append(part, e)
		form, _ := ikey.Bytes(e)
		bytes += len(form)
		if i+1 < len(l) && (string(l[i+1].Key) == string(e.Key) || bytes < size && len(part) < 2048) {
			continue
		}
		parts = append(parts, part)
		part, bytes = nil, 0
	}
	return parts
}

// chance answers numbers by a rule that hangs on seed.
func chance(seed uint32) func(most int) int {
	x := seed*2654435761 + 1
	return func(most int) int {
		x = x*1664525 + 1013904223
		return int(x >> 12 % uint32(most))
	}
}

// some are at most n rising entries of few keys and numbers.
func some(next func(int) int, n int) []api.Entry {
	var l []api.Entry
	for range n {
		key := []string{"a", "ab", "b", "a\x00", "\xff", "c", "cd", "d"}[next(8)]
		seq := int64(1 + next(9))
		if next(3) == 0 {
			l = append(l, del(key, seq))
		} else {
			l = append(l, put(key, seq, strings.Repeat(strconv.Itoa(next(10)), next(20))))
		}
	}
	return joined(l)
}

// someVersion is any version of few keys, whose sizes come to about level at the level 1.
func someVersion(next func(int) int, level int64) api.Version {
	keys := []string{"a", "a\x00", "b", "c", "cc", "d", "e", "f", "g", "h", "\xff", "\xff\xff"}
	v := api.Version{Next: 60, Log: 50, Index: 3, Seq: 4}
	free := make([]int64, 49)
	for i := range free {
		free[i] = int64(i + 1)
	}
	number := func() int64 {
		i := next(len(free))
		n := free[i]
		free = slices.Delete(free, i, i+1)
		return n
	}
	for range next(6) {
		first := next(len(keys))
		last := first + next(len(keys)-first)
		v.Tables = append(v.Tables, place(number(), 0, keys[first]+"-"+keys[last], 1+int64(next(int(level)))))
	}
	slices.SortFunc(v.Tables, func(a, b api.TableAt) int { return int(b.Number - a.Number) })
	for l, most := range []int64{0, level / 2, level * 6, level * 20} {
		if l == 0 || next(3) == 0 {
			continue
		}
		for i := next(9); i < len(keys); i += 1 + next(5) {
			last := min(i+next(3), len(keys)-1)
			v.Tables = append(v.Tables, place(number(), l, keys[i]+"-"+keys[last], 1+int64(next(int(most)+1))))
			i = last
		}
	}
	return v
}
