package merge_test

import (
	"slices"
	"testing"

	"hectare/api"
	"hectare/merge"
)

// P11.4: what is seen at any number from floor on is the same of what Keep keeps.
func TestKeepKeepsWhatIsSeen(t *testing.T) {
	for n := range uint32(300) {
		l := rising(int(n%40), n)
		all := order(l...)
		for floor := range int64(8) {
			for _, bottom := range []bool{false, true} {
				some := merge.Keep(all, floor, bottom)
				if !merge.Rising(some) {
					t.Fatalf("what is kept of %s at %d is no order", tell(l...), floor)
				}
				for seq := floor; seq < 9; seq++ {
					shows(t, merge.Seen(some, seq), slices.Collect(merge.Seen(all, seq))...)
				}
				goesOver(t, merge.Keep(some, floor, bottom), slices.Collect(some)...) // nothing more may go
			}
		}
	}
}

// P11.4: so it is through other orders, too: above what is kept, and, but for the bottom, below.
func TestKeepKeepsWhatIsSeenThroughOthers(t *testing.T) {
	for n := range uint32(300) {
		l := rising(int(n%40), n)
		var upper, middle, lower []api.Entry // of each key the upper ones are younger
		for _, e := range l {
			switch {
			case e.Seq > 4:
				upper = append(upper, e)
			case e.Seq > 2:
				middle = append(middle, e)
			default:
				lower = append(lower, e)
			}
		}
		for floor := range int64(8) {
			for seq := floor; seq < 9; seq++ {
				want := slices.Collect(merge.Seen(order(l...), seq))
				part := merge.Keep(order(middle...), floor, false)
				shows(t, merge.Seen(merge.Join(order(upper...), part, order(lower...)), seq), want...)
				whole := merge.Keep(merge.Join(order(middle...), order(lower...)), floor, true)
				shows(t, merge.Seen(merge.Join(order(upper...), whole), seq), want...)
			}
		}
	}
}

// P11.4: Join of parts of an order is the order, however it is parted, and however often an entry is in the parts.
func TestJoinOfParts(t *testing.T) {
	for n := range uint32(400) {
		l := rising(int(n%50), n)
		parts := make([][]api.Entry, 1+n%7)
		more := make([][]api.Entry, len(parts))
		for i, e := range l {
			x := (n + uint32(i)) * 2654435761
			at := int(x>>8) % len(parts)
			parts[at] = append(parts[at], e)
			for k := range more {
				if k == at || x>>(k+16)&1 == 1 {
					more[k] = append(more[k], e)
				}
			}
		}
		joins(t, l, parts...)
		joins(t, l, more...)
		slices.Reverse(parts)
		joins(t, l, parts...)
		goesOver(t, merge.Join(merge.Join(orders(parts...)...), merge.Join(orders(more...)...)), l...)
	}
}

// P11.4: the parts on both sides of a key are the order.
func TestJoinOfClips(t *testing.T) {
	for n := range uint32(100) {
		l := rising(int(n%40), n)
		all := order(l...)
		for _, key := range []string{"", "a", "a\x00", "ab", "b", "c", "\xff", "\xff\xff"} {
			below, rest := merge.Clip(all, nil, []byte(key), true), merge.Clip(all, []byte(key), nil, false)
			goesOver(t, merge.Join(below, rest), l...)
			goesOver(t, merge.Join(rest, below), l...)
			for seq := range int64(8) {
				want := slices.Concat(slices.Collect(merge.Seen(below, seq)), slices.Collect(merge.Seen(rest, seq)))
				shows(t, merge.Seen(all, seq), want...)
			}
		}
	}
}
