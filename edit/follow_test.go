package edit_test

import (
	"slices"
	"strings"
	"testing"

	"hectare/api"
	"hectare/edit"
)

// lives is what many edits come to, one behind the other, those that are refused among them: the edits that were done, and the version behind each.
func lives(seed uint32, n int) ([]api.Edit, []api.Version) {
	next := chance(seed)
	v := empty()
	var edits []api.Edit
	var said []api.Version
	for range n {
		e := someEdit(next, v)
		if then, no := edit.Do(v, e); no == api.OK {
			v = then
			edits, said = append(edits, e), append(said, v)
		}
	}
	return edits, said
}

// P10.4: Do keeps versions that may be; the numbers never fall.
func TestDoKeeps(t *testing.T) {
	tables := 0
	for seed := range uint32(400) {
		was := empty()
		_, said := lives(seed+7000, 60)
		for _, v := range said {
			if !edit.May(v) || !versionIs(v) {
				t.Fatalf("%v", v)
			}
			if v.Next < was.Next || v.Log < was.Log || v.Index < was.Index || v.Seq < was.Seq {
				t.Fatalf("%v behind %v", v, was)
			}
			tables = max(tables, len(v.Tables))
			was = v
		}
	}
	if tables < 8 {
		t.Errorf("at most %d tables", tables)
	}
}

// P10.4, P0.10: Read of Puts, one behind the other, is what Dos come to.
func TestReadOfPuts(t *testing.T) {
	for seed := range uint32(400) {
		edits, said := lives(seed+9000, 40)
		b := ""
		for i, e := range edits {
			b += written(t, e)
			reads(t, b, said[i], len(b), true)
		}
		reads(t, b+"\x00\x00", said[len(said)-1], len(b), true)
	}
}

// P10.4, P0.10: Read of Whole's is the version; other edits go on from there.
func TestReadOfWhole(t *testing.T) {
	for seed := range uint32(200) {
		edits, said := lives(seed+11000, 40)
		for i, v := range said {
			whole, no := edit.Whole(v)
			if no != api.OK {
				t.Fatalf("Whole(%v): %v", v, no)
			}
			if got := done(t, empty(), whole); !edit.Same(got, v) {
				t.Fatalf("%v, want %v", got, v)
			}
			b := written(t, whole)
			reads(t, b, v, len(b), true)
			if i+1 < len(said) {
				b += written(t, edits[i+1])
				reads(t, b, said[i+1], len(b), true)
			}
		}
	}
}

// P10.4, P0.9: edits that are put though they may not be done end a manifest just where Do refuses them.
func TestReadAsDo(t *testing.T) {
	ends := 0
	for seed := range uint32(2000) {
		next := chance(seed + 13000)
		v, b := empty(), ""
		for range 20 {
			e := someEdit(next, v)
			f, no := edit.Put(e)
			if no != api.OK {
				continue
			}
			then, no := edit.Do(v, e)
			if no != api.OK {
				reads(t, b+string(f)+b, v, len(b), false)
				ends++
				continue
			}
			v, b = then, b+string(f)
			reads(t, b, v, len(b), true)
		}
	}
	if ends < 3000 {
		t.Errorf("%d", ends)
	}
}

// P10.3, P10.4: the levels' tables are all of a version's, in order; Files are their numbers; what overlaps all keys is all of a level.
func TestLooksAgree(t *testing.T) {
	for seed := range uint32(100) {
		_, said := lives(seed+15000, 40)
		for _, v := range said {
			var all []api.TableAt
			var numbers []int64
			for level := range api.MaxLevels {
				of := edit.Of(v, level)
				if got := edit.Overlap(v, level, []byte("\x00"), []byte(strings.Repeat("\xff", 32))); !same(got, of) {
					t.Fatalf("%v, of %v", got, of)
				}
				size := int64(0)
				for _, at := range of {
					size += at.Size
					numbers = append(numbers, at.Number)
				}
				if edit.Bytes(v, level) != size {
					t.Fatalf("Bytes(%v, %d): %d", v, level, edit.Bytes(v, level))
				}
				all = append(all, of...)
			}
			slices.Sort(numbers)
			if !same(all, v.Tables) || !slices.Equal(edit.Files(v), numbers) {
				t.Fatalf("%v of %v, %v", all, v, edit.Files(v))
			}
		}
	}
}
