package edit_test

import (
	"encoding/binary"
	"fmt"
	"hash/crc32"
	"reflect"
	"slices"
	"strings"
	"testing"

	"hectare/api"
	"hectare/edit"
)

// at is a table's place, of a size that hangs on the number; keys stand as first-last.
func at(number int64, level int, keys string) api.TableAt {
	first, last, _ := strings.Cut(keys, "-")
	return place(number, level, first, last, 100+number)
}

// place is a table's place, whatever it is.
func place(number int64, level int, first, last string, size int64) api.TableAt {
	return api.TableAt{Number: number, Level: level, First: []byte(first), Last: []byte(last), Size: size}
}

// long is a key of n letters.
func long(n int) string {
	return strings.Repeat("x", n)
}

// empty is the empty version.
func empty() api.Version {
	return api.Version{Next: 1}
}

// version is one of these tables, with numbers that are all different.
func version(next int64, tables ...api.TableAt) api.Version {
	return api.Version{Next: next, Log: 3, Index: 50, Seq: 70, Tables: tables}
}

// levels is a version of some tables on all levels.
func levels() api.Version {
	return version(20, at(15, 0, "c-m"), at(12, 0, "a-z"), at(4, 0, "m-m"),
		at(7, 1, "a-c"), at(2, 1, "d-d"), at(11, 1, "da-m"), at(6, 1, "n-z"),
		at(9, 2, "b-b"), at(1, 2, "c-k"), at(18, 3, "a-\xff"))
}

// wholeOf is the edit that adds all of a version's tables.
func wholeOf(v api.Version) api.Edit {
	return api.Edit{Add: v.Tables, Next: v.Next, Log: v.Log, Index: v.Index, Seq: v.Seq}
}

// same tells whether two things are the same, where nil and empty lists are one.
func same(a, b any) bool {
	return fmt.Sprintf("%v", a) == fmt.Sprintf("%v", b)
}

// deep is a version in new memory.
func deep(v api.Version) api.Version {
	v.Tables = slices.Clone(v.Tables)
	for i, t := range v.Tables {
		v.Tables[i].First, v.Tables[i].Last = slices.Clone(t.First), slices.Clone(t.Last)
	}
	return v
}

// isZero says that beside an error, or false, there is nothing.
func isZero(t *testing.T, got any) {
	t.Helper()
	if !reflect.ValueOf(got).IsZero() {
		t.Fatalf("beside an error: %v", got)
	}
}

// done does an edit that may be done.
func done(t *testing.T, v api.Version, e api.Edit) api.Version {
	t.Helper()
	next, no := edit.Do(v, e)
	if no != api.OK {
		t.Fatalf("Do(%v, %v): %v", v, e, no)
	}
	return next
}

// refused says that an edit is refused so, and leaves what was handed in as it was.
func refused(t *testing.T, v api.Version, e api.Edit, want api.Errno) {
	t.Helper()
	was := fmt.Sprintf("%v, %v", v, e)
	next, no := edit.Do(v, e)
	if no != want {
		t.Fatalf("Do(%s): %v, want %v", was, no, want)
	}
	isZero(t, next)
	if fmt.Sprintf("%v, %v", v, e) != was {
		t.Fatalf("Do(%s) changes them to %v, %v", was, v, e)
	}
}

// written is an edit's frame.
func written(t *testing.T, e api.Edit) string {
	t.Helper()
	b, no := edit.Put(e)
	if no != api.OK {
		t.Fatalf("Put(%v): %v", e, no)
	}
	return string(b)
}

// reads says that a manifest is read so.
func reads(t *testing.T, b string, want api.Version, size int, all bool) {
	t.Helper()
	in := []byte(b)
	v, n, is := edit.Read(in)
	if !same(v, want) || n != size || is != all {
		t.Fatalf("Read(% x): %v, %d, %v; want %v, %d, %v", b, v, n, is, want, size, all)
	}
	if string(in) != b {
		t.Fatalf("Read changes % x to % x", b, in)
	}
}

// placeIs tells whether a place may be, as the chapter's words have it.
func placeIs(t api.TableAt) bool {
	first, last := string(t.First), string(t.Last)
	return t.Number >= 1 && t.Number <= 1<<31-1 && t.Level >= 0 && t.Level <= 3 && t.Size >= 1 && t.Size <= 1<<31-1 &&
		first != "" && last != "" && len(first) <= 32 && len(last) <= 32 && first <= last
}

// pairIs tells whether one table may stand ahead of another one, as the chapter's words have it.
func pairIs(a, b api.TableAt) bool {
	if a.Number == b.Number || a.Level > b.Level {
		return false
	}
	if a.Level < b.Level {
		return true
	}
	if a.Level == 0 {
		return a.Number > b.Number
	}
	return string(a.Last) < string(b.First)
}

// versionIs tells whether a version may be, as the chapter's words have it.
func versionIs(v api.Version) bool {
	for i, t := range v.Tables {
		if !placeIs(t) || t.Number >= v.Next || t.Number == v.Log {
			return false
		}
		for _, other := range v.Tables[i+1:] {
			if !pairIs(t, other) {
				return false
			}
		}
	}
	most := int64(1<<31 - 1)
	return v.Next >= 1 && v.Next > v.Log && v.Log >= 0 && v.Index >= 0 && v.Seq >= 0 && v.Next <= most && v.Index <= most && v.Seq <= most
}

// doneTo is what an edit comes to, as the chapter's words have it.
func doneTo(v api.Version, e api.Edit) (api.Version, api.Errno) {
	drops := map[int64]bool{}
	for _, n := range e.Drop {
		drops[n] = true
	}
	if !versionIs(v) || len(drops) < len(e.Drop) {
		return api.Version{}, api.ErrArg
	}
	next := api.Version{Next: e.Next, Log: e.Log, Index: e.Index, Seq: e.Seq}
	for _, t := range v.Tables {
		if drops[t.Number] {
			delete(drops, t.Number)
			continue
		}
		next.Tables = append(next.Tables, t)
	}
	next.Tables = append(next.Tables, e.Add...)
	slices.SortStableFunc(next.Tables, func(a, b api.TableAt) int {
		if a.Level == b.Level && a.Level == 0 {
			return int(b.Number - a.Number)
		}
		if a.Level == b.Level {
			return strings.Compare(string(a.First), string(b.First))
		}
		return a.Level - b.Level
	})
	if len(drops) > 0 || e.Next < v.Next || e.Log < v.Log || e.Index < v.Index || e.Seq < v.Seq || !versionIs(next) {
		return api.Version{}, api.ErrState
	}
	return next, api.OK
}

// num and text are layer 1's forms.
func num(n int64) string {
	return string(binary.AppendUvarint(nil, uint64(n)))
}

func text(s string) string {
	return num(int64(len(s))) + s
}

// payloadOf are an edit's bytes, as the chapter's words have it.
func payloadOf(e api.Edit) string {
	s := num(int64(len(e.Drop)))
	for _, n := range e.Drop {
		s += num(n)
	}
	s += num(int64(len(e.Add)))
	for _, t := range e.Add {
		s += num(t.Number) + num(int64(t.Level)) + text(string(t.First)) + text(string(t.Last)) + num(t.Size)
	}
	return s + num(e.Next) + num(e.Log) + num(e.Index) + num(e.Seq)
}

// framed is a frame around any bytes.
func framed(payload string) string {
	head := binary.BigEndian.AppendUint32(nil, uint32(len(payload)))
	sum := crc32.Checksum([]byte(string(head)+payload), crc32.MakeTable(crc32.Castagnoli))
	return string(binary.BigEndian.AppendUint32(head, sum)) + payload
}

// chance answers numbers by a rule that hangs on seed.
func chance(seed uint32) func(most int) int {
	x := seed*2654435761 + 1
	return func(most int) int {
		x = x*1664525 + 1013904223
		return int(x >> 12 % uint32(most))
	}
}

// someAt is any place, of few numbers and keys; seldom one that may not be.
func someAt(next func(int) int) api.TableAt {
	keys := []string{"a", "a\x00", "b", "c", "cc", "d", "e", "\xff"}
	first := next(len(keys))
	last := first + next(min(3, len(keys)-first))
	t := place(int64(1+next(9)), next(4), keys[first], keys[last], int64(1+next(300)))
	switch next(60) {
	case 0:
		t.First = nil
	case 1:
		t.Last = []byte(keys[next(len(keys))])
	case 2:
		t.Size = 0
	case 3:
		t.Level = next(7) - 2
	}
	return t
}

// someEdit is any edit, that goes on from a version; of many one may be done.
func someEdit(next func(int) int, v api.Version) api.Edit {
	e := api.Edit{Next: v.Next + int64(next(3)), Log: v.Log, Index: v.Index + int64(next(3)), Seq: v.Seq + int64(next(3))}
	if next(2) > 0 {
		e.Log = e.Next
		e.Next++
	}
	for range next(3) {
		if len(v.Tables) > 0 {
			e.Drop = append(e.Drop, v.Tables[next(len(v.Tables))].Number)
		}
	}
	for range next(4) {
		t := someAt(next)
		if next(3) > 0 {
			t.Number = e.Next
			e.Next++
		}
		e.Add = append(e.Add, t)
	}
	switch next(40) {
	case 0:
		e.Drop = append(e.Drop, int64(next(12)))
	case 1:
		e.Next -= int64(next(4))
	case 2:
		e.Log += int64(next(9)) - 4
	case 3:
		e.Index--
	case 4:
		e.Seq--
	case 5:
		if l := slices.Concat(v.Tables, e.Add); len(l) > 0 {
			e.Log = l[next(len(l))].Number
		}
	}
	return e
}
