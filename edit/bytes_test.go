package edit_test

import (
	"encoding/binary"
	"math"
	"slices"
	"strings"
	"testing"

	"hectare/api"
	"hectare/edit"
)

// many are n places, one of each number from 1 on, on the level 3.
func many(n int) []api.TableAt {
	var l []api.TableAt
	for i := range n {
		key := string(binary.BigEndian.AppendUint32([]byte("key"), uint32(i)))
		l = append(l, place(int64(i+1), 3, key, key+long(25), api.MaxNumber))
	}
	return l
}

// upTo are the numbers from 1 to n.
func upTo(n int) []int64 {
	var l []int64
	for i := range n {
		l = append(l, int64(i+1))
	}
	return l
}

// P10.2: an edit's frame, to the byte.
func TestPutBytes(t *testing.T) {
	for _, x := range []struct {
		e       api.Edit
		payload string
	}{
		{api.Edit{}, "\x00\x00\x00\x00\x00\x00"},
		{api.Edit{Next: 1}, "\x00\x00\x01\x00\x00\x00"},
		{api.Edit{Next: 1, Log: 2, Index: 3, Seq: 4}, "\x00\x00\x01\x02\x03\x04"},
		{api.Edit{Add: []api.TableAt{at(1, 0, "a-c")}, Next: 2, Seq: 3}, "\x00\x01\x01\x00\x01a\x01c\x65\x02\x00\x00\x03"},
		{api.Edit{Drop: []int64{1}, Add: []api.TableAt{at(2, 1, "a-b"), at(3, 1, "c-c")}, Next: 4, Seq: 3}, "\x01\x01\x02\x02\x01\x01a\x01b\x66\x03\x01\x01c\x01c\x67\x04\x00\x00\x03"},
		{api.Edit{Drop: []int64{300, 7}, Add: []api.TableAt{place(128, 3, "k\x00", "k\xff", 16384)}, Next: 129, Log: 127, Index: 200, Seq: 65536}, "\x02\xac\x02\x07\x01\x80\x01\x03\x02k\x00\x02k\xff\x80\x80\x01\x81\x01\x7f\xc8\x01\x80\x80\x04"},
	} {
		if got := written(t, x.e); got != framed(x.payload) {
			t.Errorf("Put(%v): % x, want % x", x.e, got, framed(x.payload))
		}
	}
	// by hand: the length, CRC-32C of the length and the payload, the payload
	if got := written(t, api.Edit{Next: 1}); got[:4] != "\x00\x00\x00\x06" || got[8:] != "\x00\x00\x01\x00\x00\x00" {
		t.Errorf("% x", got)
	}
}

// P10.2: any edits that may be put, held against the chapter's words; what is handed in stays.
func TestPutOfAny(t *testing.T) {
	puts := 0
	for seed := range uint32(5000) {
		next := chance(seed)
		e := someEdit(next, levels())
		may := e.Log >= 0 && !slices.ContainsFunc(e.Add, func(t api.TableAt) bool { return !placeIs(t) })
		was := payloadOf(e)
		got, no := edit.Put(e)
		switch {
		case !may && (no != api.ErrArg || got != nil):
			t.Fatalf("Put(%v): % x, %v", e, got, no)
		case may && (no != api.OK || string(got) != framed(was)):
			t.Fatalf("Put(%v): % x, %v; want % x", e, got, no, framed(was))
		case payloadOf(e) != was:
			t.Fatalf("Put changes an edit to %v", e)
		case may:
			puts++
		}
	}
	if puts < 3000 || puts > 4900 {
		t.Errorf("%d", puts)
	}
}

// P10.2: Put does not ask whether an edit may be done anywhere: numbers twice, of any size from 0 on, places that are in each other's way.
func TestPutTakes(t *testing.T) {
	for _, e := range []api.Edit{
		{Drop: []int64{0}}, {Drop: []int64{5, 5}}, {Drop: []int64{9, 1, math.MaxInt64}}, {Next: 1, Log: 9}, {Next: math.MaxInt64}, {Log: 1 << 31}, {Index: 1 << 40}, {Seq: math.MaxInt64},
		{Add: []api.TableAt{at(5, 1, "a-c"), at(5, 1, "b-d")}}, {Add: []api.TableAt{at(1, 1, "c-d"), at(2, 0, "a-b"), at(3, 0, "a-b")}, Next: 1},
		{Add: []api.TableAt{place(api.MaxNumber, 3, long(32), long(32), api.MaxNumber)}}, {Add: []api.TableAt{place(1, 0, "\x00", "\x00", 1)}},
	} {
		if got := written(t, e); got != framed(payloadOf(e)) {
			t.Errorf("Put(%v): % x", e, got)
		}
	}
}

// P10.2: what Put refuses.
func TestPutArg(t *testing.T) {
	edits := []api.Edit{
		{Drop: []int64{-1}}, {Drop: []int64{1, 2, math.MinInt64}}, {Drop: []int64{-7, 3}}, {Next: -1}, {Log: -1}, {Index: -1}, {Seq: -1}, {Next: math.MinInt64}, {Log: math.MinInt64}, {Index: math.MinInt64}, {Seq: math.MinInt64},
		{Drop: upTo(4097)}, {Add: many(4097)}, {Drop: upTo(70000)}, {Drop: upTo(4097), Add: many(4097)},
	}
	bads := []api.TableAt{
		{}, place(0, 1, "a", "b", 1), place(-1, 1, "a", "b", 1), place(1, -1, "a", "b", 1), place(1, 4, "a", "b", 1), place(1, 1, "b", "a", 1), place(1, 1, "", "a", 1), place(1, 1, "a", "", 1), place(1, 1, "", "", 1),
		place(1, 1, "a", long(33), 1), place(1, 1, long(33), "y", 1), place(1, 1, "a", "b", 0), place(1, 1, "a\x00", "a", 1), place(1, math.MinInt, "a", "b", 1), place(1, math.MaxInt, "a", "b", 1),
	}
	for _, n := range far() {
		bads = append(bads, place(n, 1, "a", "b", 1), place(1, 1, "a", "b", n), place(1, int(n), "a", "b", 1))
	}
	for _, bad := range bads {
		edits = append(edits, api.Edit{Add: []api.TableAt{bad}}, api.Edit{Add: []api.TableAt{at(7, 1, "a-b"), bad, at(8, 0, "a-b")}}, api.Edit{Add: []api.TableAt{at(7, 1, "a-b"), bad}, Next: 9})
	}
	for i, e := range edits {
		got, no := edit.Put(e)
		if no != api.ErrArg || got != nil {
			t.Fatalf("%d: Put(%v): % x, %v", i, e, got, no)
		}
	}
}

// P10.2: lists of 4096 are put, and read.
func TestPutMost(t *testing.T) {
	v := api.Version{Next: 9000, Log: 8999, Tables: many(4096)}
	whole, no := edit.Whole(v)
	if no != api.OK {
		t.Fatal(no)
	}
	b := written(t, whole)
	if b != framed(payloadOf(wholeOf(v))) {
		t.Fatalf("%d bytes", len(b))
	}
	reads(t, b, v, len(b), true)
	drop := written(t, api.Edit{Drop: upTo(4096), Add: many(4096), Next: 9000, Log: 8999})
	reads(t, b+drop, v, len(b)+len(drop), true)
	drop = written(t, api.Edit{Drop: upTo(4096), Next: 9000, Log: 8999})
	reads(t, b+drop, api.Version{Next: 9000, Log: 8999}, len(b)+len(drop), true)
	v.Tables = many(4097)
	whole, no = edit.Whole(v)
	if no != api.OK || !same(whole, wholeOf(v)) {
		t.Fatal(no)
	}
	if _, no := edit.Put(whole); no != api.ErrArg {
		t.Fatal(no)
	}
	if v = done(t, empty(), whole); len(v.Tables) != 4097 {
		t.Fatalf("%d tables", len(v.Tables))
	}
	long := framed(payloadOf(whole))
	reads(t, long, empty(), 0, false)
}

// manifest are frames, and what is said behind each of them (and ahead of the first).
func manifest(t *testing.T) ([]string, []api.Version) {
	t.Helper()
	v := empty()
	var frames []string
	said := []api.Version{v}
	for _, e := range []api.Edit{
		{Next: 3, Log: 2}, {Add: []api.TableAt{at(3, 0, "a-m")}, Next: 5, Log: 4, Index: 3, Seq: 9}, {Add: []api.TableAt{at(5, 0, "c-z")}, Next: 7, Log: 6, Index: 5, Seq: 200},
		{Drop: []int64{5, 3}, Add: []api.TableAt{at(8, 1, "d-z"), at(7, 1, "a-c")}, Next: 9, Log: 6, Index: 5, Seq: 200}, {Drop: []int64{7}, Add: []api.TableAt{at(7, 2, "a-c")}, Next: 9, Log: 6, Index: 5, Seq: 200},
	} {
		v = done(t, v, e)
		frames, said = append(frames, written(t, e)), append(said, v)
	}
	return frames, said
}

// P10.2: a manifest, each first part of it, and what may stand behind it.
func TestRead(t *testing.T) {
	frames, said := manifest(t)
	all := strings.Join(frames, "")
	i, end := 0, 0
	for n := range len(all) + 1 {
		if i < len(frames) && n == end+len(frames[i]) {
			end += len(frames[i])
			i++
		}
		reads(t, all[:n], said[i], end, true)
	}
	if i != len(frames) {
		t.Fatalf("%d frames", i)
	}
	last := said[len(frames)]
	for _, rest := range []string{"\x00", "\xff\xff\xff\xff\xff\xff\xff\xff\xff", frames[0][:9], frames[0][1:], frames[4][:len(frames[4])-1] + "\xff", strings.Repeat("\x00", 8) + all} {
		reads(t, all+rest, last, len(all), true)
	}
	reads(t, "", empty(), 0, true)
	if v, n, is := edit.Read(nil); !same(v, empty()) || n != 0 || !is {
		t.Fatalf("%v, %d, %v", v, n, is)
	}
}

// P10.2: one bit turned, anywhere: that frame is not whole, and those ahead of it are read.
func TestReadTurned(t *testing.T) {
	frames, said := manifest(t)
	all := []byte(strings.Join(frames, ""))
	i, end := 0, 0
	for n := range all {
		if n == end+len(frames[i]) {
			end += len(frames[i])
			i++
		}
		for bit := range 8 {
			all[n] ^= 1 << bit
			reads(t, string(all), said[i], end, true)
			all[n] ^= 1 << bit
		}
	}
}

// P10.2: a whole frame that says an edit that may not be done, or no edit, ends it, at whatever place, and is told of; whatever stands behind it.
func TestReadRefused(t *testing.T) {
	frames, said := manifest(t)
	bads := []string{
		written(t, api.Edit{Next: 9, Log: 9, Index: 5, Seq: 200}), written(t, api.Edit{}), written(t, api.Edit{Next: 1 << 31, Log: 6, Index: 5, Seq: 200}), written(t, api.Edit{Next: math.MaxInt64, Log: 6, Index: 5, Seq: 200}),
		written(t, api.Edit{Drop: []int64{99}, Next: 100, Log: 6, Index: 5, Seq: 200}), written(t, api.Edit{Drop: []int64{7, 7}, Next: 100, Log: 6, Index: 5, Seq: 200}), written(t, api.Edit{Drop: []int64{3, 3}, Next: 100, Log: 6, Index: 5, Seq: 200}),
		written(t, api.Edit{Drop: []int64{5, 5}, Next: 100, Log: 6, Index: 5, Seq: 200}), written(t, api.Edit{Add: []api.TableAt{at(50, 1, "a-c"), at(51, 1, "c-d")}, Next: 100, Log: 6, Index: 5, Seq: 200}), written(t, api.Edit{Add: []api.TableAt{at(50, 1, "a-c")}, Next: 50, Log: 6, Index: 5, Seq: 200}),
		written(t, api.Edit{Next: 100, Log: 7, Add: []api.TableAt{at(7, 3, "a-c")}, Index: 5, Seq: 200}), written(t, api.Edit{Next: 100, Log: 50, Add: []api.TableAt{at(51, 0, "a-c"), at(50, 3, "a-c")}, Index: 5, Seq: 200}),
		written(t, api.Edit{Next: 100, Log: 6, Index: 5, Seq: 1 << 31}), written(t, api.Edit{Next: 100, Log: 6, Index: 1 << 31, Seq: 200}),
	}
	good := payloadOf(api.Edit{Add: []api.TableAt{at(50, 3, "a-c")}, Next: 100, Log: 6, Index: 5, Seq: 200})
	reads(t, framed(good), api.Version{Next: 100, Log: 6, Index: 5, Seq: 200, Tables: []api.TableAt{at(50, 3, "a-c")}}, len(framed(good)), true)
	for _, bad := range noEdits(good) {
		bads = append(bads, framed(bad))
	}
	for _, bad := range bads {
		end := 0
		for i, f := range append(slices.Clone(frames), "") {
			ahead := strings.Join(frames[:i], "")
			behind := strings.Join(frames[i:], "")
			for _, b := range []string{ahead + bad, ahead + bad + behind, ahead + bad + "\x00\x01", ahead + bad + bad} {
				reads(t, b, said[i], end, false)
			}
			reads(t, ahead+bad[:len(bad)-1], said[i], end, true)
			end += len(f)
		}
	}
}

// P10.2: an edit behind which the log's number is a table's ends a manifest, whether the table comes by it, or was there ahead of it; one that drops that table does not.
func TestReadLogTwice(t *testing.T) {
	bad := written(t, api.Edit{Add: []api.TableAt{place(12, 0, "a", "c", 1)}, Next: 13, Log: 12})
	reads(t, bad, empty(), 0, false)
	v := api.Version{Next: 14, Log: 11, Tables: []api.TableAt{place(12, 0, "a", "c", 1)}}
	b := written(t, wholeOf(v))
	reads(t, b, v, len(b), true)
	bad = written(t, api.Edit{Next: 14, Log: 12})
	reads(t, b+bad, v, len(b), false)
	b += written(t, api.Edit{Drop: []int64{12}, Next: 14, Log: 12})
	reads(t, b, api.Version{Next: 14, Log: 12}, len(b), true)
	reads(t, b+bad, api.Version{Next: 14, Log: 12}, len(b)+len(bad), true)
}

// noEdits are bytes that are no edit's, of those that are one's.
func noEdits(good string) []string {
	l := []string{
		"\x00", good + "\x00", good + good, good[:len(good)-1], good[1:], "\x00" + good,
		"\x80\x00" + good[1:], "\x00\x81\x00" + good[2:], "\x00\x00\x64\x06\x05\xc8\x81\x00", "\x00\x00\x64\x06\x85\x00\x08", // numbers with a needless 0
		"\x00\x00\xff\xff\xff\xff\xff\xff\xff\xff\xff\x01\x06\x05\x08", "\x00\x00\xff\xff\xff\xff\xff\xff\xff\xff\xff\x02\x06\x05\x08", "\x00\x00\x64\x06\x05" + num(-200), "\x00\x00\x64" + num(math.MinInt64) + "\x05\x08",
		"\x01" + num(-5) + "\x00\x64\x06\x05\x08", "\x05\x01\x02\x00\x64\x06\x05\x08", "\x00\x02" + good[2:],
	}
	for _, bad := range []api.TableAt{
		place(0, 1, "a", "b", 1), place(1, 4, "a", "b", 1), place(1, 1, "b", "a", 1), place(1, 1, "", "a", 1), place(1, 1, "a", "", 1), place(1, 1, "a", "b", 0), place(1, 1, "a", long(33), 1), place(1, 1, long(33), "y", 1), place(1, 1, "a", "b", 1<<31),
		place(-1, 1, "a", "b", 1), place(1, -1, "a", "b", 1), place(1, 1, "a", "b", -1), place(1, 1<<32, "a", "b", 1), place(1<<32+1, 1, "a", "b", 1), place(1, math.MinInt+1, "a", "b", 1), place(1, 1, "a", "b", math.MinInt64),
	} {
		l = append(l, payloadOf(api.Edit{Add: []api.TableAt{bad}, Next: 100, Log: 6, Index: 5, Seq: 200}))
	}
	for n := range len(good) {
		if n > 0 {
			l = append(l, good[:n])
		}
	}
	return l
}

// P10.2: any bytes with right sums: of each byte of an edit's bytes all others, as the chapter's words have it.
func TestReadOfAny(t *testing.T) {
	first := api.Edit{Add: []api.TableAt{at(4, 0, "a-c"), at(5, 1, "b-d")}, Next: 7, Log: 1, Index: 2, Seq: 3}
	v := done(t, empty(), first)
	ahead := written(t, first)
	took := 0
	for _, e := range []api.Edit{{Next: 200, Log: 6, Index: 5, Seq: 200}, {Drop: []int64{4, 5}, Add: []api.TableAt{at(9, 1, "b-c"), at(8, 1, "da-e")}, Next: 100, Log: 6, Index: 5, Seq: 200}} {
		payload := []byte(payloadOf(e))
		for at := range payload {
			for other := range 256 {
				changed := slices.Clone(payload)
				changed[at] = byte(other)
				want, is := said(v, string(changed))
				size := len(ahead)
				if is {
					size += len(changed) + 8
					took++
				}
				reads(t, ahead+framed(string(changed)), want, size, is)
			}
		}
	}
	if took < 300 {
		t.Errorf("%d", took)
	}
}

// said is the version behind a payload, as the chapter's words have it, and whether the payload says an edit that may be done; else the version ahead.
func said(v api.Version, payload string) (api.Version, bool) {
	rest, whole := payload, true
	take := func() int64 {
		n, size := binary.Uvarint([]byte(rest))
		if size <= 0 || n > math.MaxInt64 || num(int64(n)) != rest[:size] {
			whole, rest = false, ""
			return 0
		}
		rest = rest[size:]
		return int64(n)
	}
	key := func() []byte {
		n := take()
		if n > int64(len(rest)) {
			whole, n = false, 0
		}
		key := rest[:n]
		rest = rest[n:]
		return []byte(key)
	}
	var e api.Edit
	for n := take(); n > 0 && whole; n-- {
		e.Drop = append(e.Drop, take())
	}
	for n := take(); n > 0 && whole; n-- {
		e.Add = append(e.Add, api.TableAt{Number: take(), Level: int(take()), First: key(), Last: key(), Size: take()})
	}
	e.Next, e.Log, e.Index, e.Seq = take(), take(), take(), take()
	next, no := doneTo(v, e)
	if !whole || rest != "" || no != api.OK {
		return v, false
	}
	return next, true
}

// P10.2: keys, and numbers, as great as they may be.
func TestReadOfGreat(t *testing.T) {
	const most = api.MaxNumber
	v := api.Version{Next: most, Log: most - 1, Index: most, Seq: most, Tables: []api.TableAt{
		place(most-2, 0, long(32), long(32), most), place(most-3, 0, "a", long(32), most), place(2, 3, long(32), "z", most), place(1, 3, strings.Repeat("\xff", 32), strings.Repeat("\xff", 32), 1)}}
	b := written(t, wholeOf(v))
	reads(t, b, v, len(b), true)
}

// P10.2: Whole is the edit that adds all.
func TestWhole(t *testing.T) {
	for _, v := range []api.Version{empty(), levels(), version(4), version(9, at(5, 0, "a-c"), at(2, 1, "b-c")), {Next: api.MaxNumber, Log: api.MaxNumber - 1, Index: api.MaxNumber, Seq: api.MaxNumber}} {
		was := deep(v)
		e, no := edit.Whole(v)
		if no != api.OK || !same(e, wholeOf(v)) || len(e.Drop) > 0 || !same(v, was) {
			t.Fatalf("Whole(%v): %v, %v", v, e, no)
		}
	}
	for _, v := range []api.Version{{}, {Next: 1, Log: 1}, {Next: 1, Log: -1}, {Next: 1, Index: -1}, {Next: 1, Seq: -1}, version(5, at(5, 0, "a-c")), version(9, at(2, 0, "a-c"), at(5, 0, "a-c")), version(9, at(5, 1, "a-c"), at(2, 1, "c-c")), version(9, place(5, 0, "a", "b", 0)), version(9, at(5, 0, "a-c"), at(3, 1, "a-c"))} {
		e, no := edit.Whole(v)
		if no != api.ErrArg {
			t.Fatalf("Whole(%v): %v", v, no)
		}
		isZero(t, e)
	}
}

// P10.2: what Put, Read and Whole answer shares nothing with what was handed in.
func TestBytesShareNothing(t *testing.T) {
	v := levels()
	e, _ := edit.Whole(v)
	b := []byte(written(t, e))
	got, _, _ := edit.Read(b)
	clear(b)
	if !same(got, v) {
		t.Fatalf("%v", got)
	}
	for i := range v.Tables {
		clear(v.Tables[i].First)
		clear(v.Tables[i].Last)
		v.Tables[i].Number = 0
	}
	if !same(e, wholeOf(levels())) || !same(got, levels()) {
		t.Fatalf("%v, %v", e, got)
	}
	one := version(9, at(5, 0, "x-x"))
	one.Tables[0].Last = one.Tables[0].First // one memory
	e, _ = edit.Whole(one)
	clear(e.Add[0].First)
	if string(e.Add[0].Last) != "x" {
		t.Fatalf("%v", e)
	}
}
