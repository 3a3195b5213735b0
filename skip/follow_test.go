package skip_test

import (
	"fmt"
	"slices"
	"testing"

	"hectare/api"
	"hectare/ikey"
	"hectare/skip"
)

// chance answers numbers below n, by a rule.
func chance(seed uint32) func(n int) int {
	return func(n int) int {
		seed = seed*1664525 + 1013904223
		return int(seed>>8) % n
	}
}

// P6.4: a copy has the same entries, and each goes on apart.
func TestCopy(t *testing.T) {
	l := some()
	for n := range len(l) + 1 {
		list := made(t, l[:n]...)
		c := list.Copy()
		holds(t, c, l[:n]...)
		if !skip.Same(list, c) || !skip.Same(c, list) {
			t.Fatalf("a copy of %s is another one", tellAll(l[:n]))
		}
		more := []api.Entry{put("\x00", 10, ""), put("a", 25469, ""), del("a", 1), put("ab", 2, ""), put("zz", 5, "")}
		for i, e := range more {
			to := []*skip.List{list, c}[i%2]
			if no := to.Put(e); no != api.OK {
				t.Fatalf("Put %s: %v", tell(e), no)
			}
		}
		holds(t, list, ikey.Sort(append(slices.Clone(l[:n]), more[0], more[2], more[4])...)...)
		holds(t, c, ikey.Sort(append(slices.Clone(l[:n]), more[1], more[3])...)...)
	}
}

// P6.4: a copy of a list is gone over as it is when it begins, too, and its copy again.
func TestCopyOfCopy(t *testing.T) {
	l := some()
	c := made(t, l...).Copy().Copy()
	at := 0
	for e := range c.From(nil) {
		c.Put(put("a", int64(1000-at), ""))
		c.Put(put("zz", int64(1000-at), ""))
		if at == len(l) || !ikey.Same(e, l[at]) {
			t.Fatalf("the entry %d: %s", at, tell(e))
		}
		at++
	}
	if at != len(l) || c.Len() != 3*len(l) {
		t.Errorf("goes over %d, and has %d", at, c.Len())
	}
}

// P6.4: Same is a list with one of the same entries alone: all of each entry counts.
func TestSame(t *testing.T) {
	a, b, c := put("a", 5, "x"), put("b", 5, "x"), del("c", 5)
	lists := [][]api.Entry{
		{}, {a}, {b}, {c}, {a, b}, {a, c}, {b, c}, {a, b, c},
		{put("a", 5, "y"), b, c}, {put("a", 5, ""), b, c}, {del("a", 5), b, c}, {put("a", 6, "x"), b, c}, {put("a\x00", 5, "x"), b, c},
		{a, put("b", 5, "y"), c}, {a, put("b", 4, "x"), c}, {a, b, put("c", 5, "")}, {a, b, put("c", 5, "x")}, {a, b, del("c", 6)}, {a, b, del("d", 5)}, {a, b, c, del("d", 5)}, {put("\x00", 5, ""), a, b, c},
	}
	for i, l := range lists {
		for j, m := range lists {
			if got := skip.Same(made(t, l...), made(t, m...)); got != (i == j) {
				t.Errorf("Same of %s and %s: %v", tellAll(l), tellAll(m), got)
			}
		}
		list := made(t, l...)
		if !skip.Same(list, list) {
			t.Errorf("%s is not the same as itself", tellAll(l))
		}
		for _, none := range nils() {
			if skip.Same(list, none) || skip.Same(none, list) {
				t.Errorf("%s is the same as nil", tellAll(l))
			}
		}
	}
	for _, none := range nils() {
		for _, other := range nils() {
			if !skip.Same(none, other) {
				t.Error("two nil ones are not the same")
			}
		}
	}
	empty := put("a", 5, "")
	empty.Value = nil
	if !skip.Same(made(t, empty), made(t, put("a", 5, ""))) {
		t.Error("nil and empty values are not one")
	}
}

// P6.5: in all orders in which six entries are put the list is the same, level by level.
func TestAllOrders(t *testing.T) {
	l := []api.Entry{put("a", 36, "x"), del("a", 20), put("a", 5, "y"), put("a", 4, ""), put("b", 12, ""), del("c", 1)}
	first := made(t, l...)
	orders := 0
	var turn func(n int)
	turn = func(n int) {
		if n < len(l) {
			for i := n; i < len(l); i++ {
				l[n], l[i] = l[i], l[n]
				turn(n + 1)
				l[n], l[i] = l[i], l[n]
			}
			return
		}
		orders++
		list := made(t, l...)
		if !skip.Same(list, first) {
			t.Fatalf("put as %s, it is another list", tellAll(l))
		}
		holds(t, list, ikey.Sort(l...)...)
	}
	turn(0)
	if orders != 720 {
		t.Errorf("%d orders", orders)
	}
}

// P6.5: each level's entries are among those of the level below, and stand in the same order.
func TestLevelsAreAmongThoseBelow(t *testing.T) {
	list := skip.New()
	for seq := int64(40000); seq > 0; seq-- {
		list.Put(put("a", seq, ""))
	}
	for n := range api.MaxHeight - 1 {
		below := over(list.Level(n))
		at, high := 0, 0
		for e := range list.Level(n + 1) {
			for at < len(below) && !ikey.Same(below[at], e) {
				at++
			}
			if at == len(below) {
				t.Fatalf("%s is in the level %d, and not in %d", tell(e), n+1, n)
			}
			high++
		}
		if high == 0 || high >= len(below) {
			t.Errorf("%d are in the level %d, %d in %d", high, n+1, len(below), n)
		}
	}
}

// P6.1 to P6.5: many calls, one behind the other, held against a model: a list of entries as the chapter's words have it.
func TestManyCalls(t *testing.T) {
	for seed := range uint32(20) {
		below := chance(seed)
		list := skip.New()
		var model []api.Entry
		for range 300 {
			key := []string{"k", "k1", "k11", "k2", "l", "k\x00"}[below(6)]
			seq := int64(below(60))
			switch below(3) {
			case 0, 1:
				e := put(key, seq, fmt.Sprint(below(99)))
				if below(4) == 0 {
					e = del(key, seq)
				}
				want := api.OK
				if seq == 0 {
					want = api.ErrArg
				} else if slices.ContainsFunc(model, func(o api.Entry) bool { return string(o.Key) == key && o.Seq == seq }) {
					want = api.ErrThere
				}
				if got := list.Put(e); got != want {
					t.Fatalf("Put %s: %v, want %v", tell(e), got, want)
				}
				if want == api.OK {
					model = append(model, e)
				}
			case 2:
				got, no := list.Get([]byte(key), seq)
				want, wrong := seen(model, key, seq)
				if !ikey.Same(got, want) || no != wrong {
					t.Fatalf("Get(%q, %d): %s, %v, want %s, %v", key, seq, tell(got), no, tell(want), wrong)
				}
			}
			sorted := ikey.Sort(model...)
			from := slices.IndexFunc(sorted, func(e api.Entry) bool { return string(e.Key) >= key })
			if from < 0 {
				from = len(sorted)
			}
			goesOver(t, list.From([]byte(key)), sorted[from:]...)
		}
		holds(t, list, ikey.Sort(model...)...)
		if c := list.Copy(); !skip.Same(c, list) {
			t.Fatal("a copy is another one")
		}
	}
}

// P6.1 to P6.3: many entries are put, found, and gone over soon; one who leaves early does not wait for all.
func TestManyEntries(t *testing.T) {
	const many = 60000
	list := skip.New()
	key := func(n int) []byte { return []byte(fmt.Sprintf("%05d", n)) }
	for i := range many {
		n := i * 7919 % many
		if no := list.Put(api.Entry{Key: key(n), Seq: int64(1 + n%5), Kind: api.KindPut}); no != api.OK {
			t.Fatalf("Put %d: %v", n, no)
		}
	}
	for n := range many {
		if e, no := list.Get(key(n), 9); no != api.OK || string(e.Key) != string(key(n)) {
			t.Fatalf("Get %d: %s, %v", n, tell(e), no)
		}
		for e := range list.From(key(n)) {
			if string(e.Key) != string(key(n)) {
				t.Fatalf("From %d begins with %s", n, tell(e))
			}
			break
		}
	}
	if l := over(list.From(nil)); len(l) != many || !ikey.Rising(l...) {
		t.Errorf("goes over %d", len(l))
	}
	if c := list.Copy(); c.Len() != many || !skip.Same(c, list) {
		t.Error("a copy is another one")
	}
}
