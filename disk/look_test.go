package disk_test

import (
	"bytes"
	"slices"
	"strings"
	"testing"

	"hectare/api"
	"hectare/disk"
)

// told is what All goes over, up to so many files, a text each.
func told(d *disk.Disk, most int) []string {
	var l []string
	for name, b := range d.All() {
		if len(l) == most {
			break
		}
		l = append(l, name+"="+string(b))
	}
	return l
}

// P3.3: names rise by their bytes, in whatever order the files came.
func TestNamesRise(t *testing.T) {
	sorted := []string{"!", "%", "-1", "0", "10", "2", "A", "AA", "Z", "_", "a", "a!", "aA", "aa", "ab", "b", "~", "~~"}
	for turn := range 20 {
		d := made(t)
		for i := range sorted {
			want(t, "Append", d.Append(sorted[(i*7+turn)%len(sorted)], []byte{byte(i)}), api.OK)
		}
		if l := d.Names(); !slices.Equal(l, sorted) {
			t.Fatalf("Names: %q, want %q", l, sorted)
		}
		var l []string
		for name, b := range d.All() {
			l = append(l, name)
			if all, _ := d.Read(name); !bytes.Equal(all, b) {
				t.Errorf("All tells %q of %s, want %q", b, name, all)
			}
		}
		if !slices.Equal(l, sorted) {
			t.Fatalf("All: %q, want %q", l, sorted)
		}
	}
}

// P3.3: what Names answers is the caller's.
func TestNamesAreNewMemory(t *testing.T) {
	d := made(t)
	put(t, d, "a", "", "")
	put(t, d, "b", "", "")
	clear(d.Names())
	if l := d.Names(); !slices.Equal(l, []string{"a", "b"}) {
		t.Errorf("Names: %q", l)
	}
}

// P3.3: All may be left at any time, and gone through again, from the first file on.
func TestAllIsLeftAndGoneThroughAgain(t *testing.T) {
	d := made(t)
	put(t, d, "b", "12", "3")
	put(t, d, "c", "", "")
	put(t, d, "a", "xyz", "uv")
	whole := []string{"a=xyzuv", "b=123", "c="}
	for most := range 5 {
		if l := told(d, most); !slices.Equal(l, whole[:min(most, 3)]) {
			t.Errorf("the first %d: %q", most, l)
		}
	}
	all := d.All()
	for range 3 {
		var l []string
		for name, b := range all {
			for inner := range all { // one within another one
				if inner == "b" {
					break
				}
			}
			l = append(l, name+"="+string(b))
		}
		if !slices.Equal(l, whole) {
			t.Errorf("All: %q", l)
		}
	}
	if l := told(made(t), 9); len(l) != 0 {
		t.Errorf("All of no files: %q", l)
	}
}

// P3.3: files are told as they are when it begins, whatever becomes of them by the way; the next time as they are then.
func TestAllAsItBegins(t *testing.T) {
	d := made(t)
	put(t, d, "a", "1", "")
	put(t, d, "b", "2", "")
	put(t, d, "c", "3", "")
	all := d.All()
	for turn, files := range [][]string{{"a=1", "b=2", "c=3"}, {"a=1", "b0=", "d=3!"}} {
		var l []string
		for name, b := range all {
			if turn == 0 && len(l) == 0 {
				want(t, "Append", d.Append("c", []byte("!")), api.OK)
				want(t, "Append", d.Append("b0", nil), api.OK)
				want(t, "Remove", d.Remove("b"), api.OK)
				want(t, "Rename", d.Rename("c", "d"), api.OK)
			}
			l = append(l, name+"="+string(b))
		}
		if !slices.Equal(l, files) {
			t.Errorf("All: %q, want %q", l, files)
		}
	}
}

// P3.3: the bytes that All tells are the caller's.
func TestAllIsNewMemory(t *testing.T) {
	d := made(t)
	put(t, d, "a", "xyz", "uv")
	for range 2 {
		for _, b := range d.All() {
			clear(b)
			_ = append(b, "!!!"...)
		}
	}
	want(t, "Append", d.Append("a", []byte("w")), api.OK)
	holds(t, d, "a", "xyzuvw", 3)
}

// P3.3, P3.5: of nil, and of a zero one, all that has no error is zero.
func TestLooksOfNil(t *testing.T) {
	for _, d := range nils() {
		if d.Names() != nil || d.Room() != 0 || d.Used() != 0 || d.Copy() != nil || told(d, 9) != nil {
			t.Errorf("of nil: %q, %d, %d, %v, %q", d.Names(), d.Room(), d.Used(), d.Copy(), told(d, 9))
		}
	}
}

// P3.3: Used is what all files have, loose bytes too.
func TestUsed(t *testing.T) {
	d, _ := disk.New(api.MaxDisk)
	sum := 0
	for i := range 100 {
		put(t, d, strings.Repeat("n", 1+i%9), strings.Repeat("x", i), strings.Repeat("y", i*i))
		sum += i + i*i
		if d.Used() != sum || d.Room() != api.MaxDisk {
			t.Fatalf("Used, Room: %d, %d, want %d", d.Used(), d.Room(), sum)
		}
	}
}
