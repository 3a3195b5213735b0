package wal_test

import (
	"bytes"
	"math"
	"slices"
	"strings"
	"testing"

	"hectare/api"
	"hectare/wal"
)

// P13.2: logs of batches that rise, of all edges.
func TestBatches(t *testing.T) {
	var l []api.Batch
	for i, index := range indexes() {
		l = append(l, batch(index, goods()[i%3:i%7+1]...))
		says(t, log(batch(index)), []api.Batch{batch(index)}, 11+len(number(uint64(index)))-1, true)
	}
	for n := range len(l) + 1 {
		says(t, log(l[:n]...), l[:n], len(log(l[:n]...)), true)
		says(t, log(l[n:]...), l[n:], len(log(l[n:]...)), true)
	}
	for seed := range uint32(300) {
		l := someLog(chance(seed+1000), int(seed%30))
		says(t, log(l...), l, len(log(l...)), true)
	}
}

// P13.2: nothing is said by no bytes; all is well.
func TestBatchesOfNothing(t *testing.T) {
	for _, b := range [][]byte{nil, {}, []byte(log(batch(1)))[:0]} {
		l, size, well := wal.Batches(b)
		if len(l) != 0 || size != 0 || !well {
			t.Errorf("Batches of nothing: %s, %d, %v", tell(l), size, well)
		}
		goesOver(t, wal.After(b, 0))
		goesOver(t, wal.After(b, math.MinInt64))
	}
}

// P13.2: a batch that is not above the one ahead ends a log, whatever is behind it.
func TestBatchesThatDoNotRise(t *testing.T) {
	for _, indexes := range [][]int64{{1, 1}, {2, 1}, {1, 2, 2}, {1, 3, 2}, {1, 3, 1}, {5, 9, 7}, {127, 128, 127}, {300, 128}, {16384, 128}, {128, 16384, 129}, {api.MaxNumber, api.MaxNumber}, {api.MaxNumber, 1}, {1, api.MaxNumber, api.MaxNumber - 1}} {
		var l []api.Batch
		for i, index := range indexes {
			l = append(l, batch(index, goods()[i]))
		}
		rising := l[:len(l)-1]
		for _, behind := range []string{"", log(batch(api.MaxNumber)), log(batch(api.MaxNumber-1), batch(api.MaxNumber)), "\x00", "odd bytes, no frame"} {
			says(t, log(l...)+behind, rising, len(log(rising...)), false)
		}
	}
	twice := batch(7, put("a", 5, "x"))
	says(t, log(twice, twice, batch(8)), []api.Batch{twice}, len(log(twice)), false)
}

// nones are payloads that are no batch's, though the frames around them are whole.
func nones() []string {
	list := text("\x01\x06\x01a\x05\x01\x01x")
	l := []string{
		"\x00", "\x07", "\x80", "\x87", "a text", "\x07\x00", "\x07\x01", "\x07\x02\x00", "\x07\x02\x00\x00", "\x07\x01\x00\x00", "\x07\x01\x00x", "\x07\x01\x01", "\x07\x02\x01\x00", // no list, or not one alone
		"\x07" + list[:len(list)-1], "\x07" + list + "\x00", "\x07" + list + list, list, "\x01\x00", "\x07\x00\x00", "\x07\x07\x01\x06\x01a\x05\x01\x01x", "\x07\x09\x01\x06\x01a\x05\x01\x01x", "\x07\x09\x01\x06\x01a\x05\x01\x01x\x00",
		"\x07\x08\x02\x06\x01a\x05\x01\x01x", "\x07\x08\x00\x06\x01a\x05\x01\x01x", "\x07\x08\x01\x05\x01a\x05\x01\x01x", "\x07\x07\x01\x01a\x05\x01\x01x", "\x07\x01\x06\x01a\x05\x01\x01x", "\x07\x06\x01a\x05\x01\x01x", // other lengths, or the list not as bytes
		"\x87\x00\x01\x00", "\x87\x80\x00\x01\x00", "\x07\x81\x00\x00", "\x07\x02\x80\x00", "\x07\x09\x81\x00\x06\x01a\x05\x01\x01x", "\x07\x09\x01\x86\x00\x01a\x05\x01\x01x", "\x07\x09\x01\x07\x81\x00a\x05\x01\x01x", // numbers that have a shorter form
		"\x00\x00\x00\x03\x01\x01\x00", framed("\x07\x01\x00"),
		"\xff\xff\xff\xff\xff\xff\xff\xff\xff\x02\x01\x00", "\x07\xff\xff\xff\xff\xff\xff\xff\xff\xff\x01\x00", "\x07\xff\xff\xff\xff\x07\x00", "\x07\x0a\xff\xff\xff\xff\xff\xff\xff\xff\xff\x01",
	}
	for _, index := range []uint64{0, 1 << 31, 1<<31 + 7, 1 << 32, 1<<32 + 7, 1<<63 - 1, 1 << 63, 1<<63 + 7, math.MaxUint64 - 7, math.MaxUint64} {
		l = append(l, number(index)+"\x01\x00", number(index)+list)
	}
	for _, e := range bads() {
		if e.Kind != api.KindDelete || len(e.Value) == 0 { // a delete's value has no bytes
			l = append(l, payloadOf(batch(7, e)), payloadOf(batch(7, put("a", 5, "x"), e, del("b", 1))))
		}
	}
	return append(l, payloadOf(batch(7, slices.Repeat([]api.Entry{del("a", 5)}, api.MaxList+1)...)), payloadOf(batch(7, of("a", 5, 2, "")))+"\x00")
}

// P13.2: a whole frame around what is no batch ends a log, wherever it stands, whatever is behind it.
func TestPayloadsThatAreNone(t *testing.T) {
	ahead := []api.Batch{batch(1), batch(5, put("a", 5, "x"), del("b", 4)), batch(6, del("z", 1))}
	for _, none := range nones() {
		for n := range len(ahead) + 1 {
			for _, behind := range []string{"", log(batch(8), batch(9)), log(ahead[n:]...), "\x00\x00", "odd bytes, no frame"} {
				says(t, log(ahead[:n]...)+framed(none)+behind, ahead[:n], len(log(ahead[:n]...)), false)
			}
		}
	}
}

// P13.2: what is behind the whole frames: a crash leaves the first part of a frame, or it is odd.
func TestRests(t *testing.T) {
	logs := [][]api.Batch{nil, {batch(1)}, {batch(1, put("a", 5, "x")), batch(2), batch(9, del("a", 6))}}
	for _, l := range logs {
		b := log(l...)
		whole := log(batch(10, put("key", 5, "some text")))
		for n := range len(whole) {
			says(t, b+whole[:n], l, len(b), true)
		}
		for _, torn := range []string{"\x00", "\xff\xff\xff\xff\xff\xff\xff", "\x00\x00\x00\x00\x00\x00\x00", "\x00\x10\x00\x00sum?", "\x00\x00\x00\x05sum?four", whole[:4] + "sum?" + whole[8:len(whole)-1]} {
			says(t, b+torn, l, len(b), true)
		}
		for _, odd := range []string{"\x00\x00\x00\x00sum?", "\x00\x10\x00\x01sum?", "\xff\xff\xff\xff\xff\xff\xff\xff", "\x00\x00\x00\x04sum?four", "\x00\x00\x00\x03sum?four", whole[:4] + "sum?" + whole[8:], whole[:len(whole)-1] + "T", "a long text that is no frame"} {
			says(t, b+odd, l, len(b), false)
			says(t, b+odd+whole, l, len(b), false)
		}
	}
}

// P13.2: After, of all places below, at, and above those of a log.
func TestAfter(t *testing.T) {
	l := []api.Batch{batch(2, put("a", 5, "x")), batch(3), batch(7, del("b", 9), del("a", 9)), batch(128), batch(api.MaxNumber, put("c", 1, ""))}
	for _, behind := range []string{"", "\x00\x00\x00", "odd bytes, no frame", log(batch(5)), framed("none") + log(batch(api.MaxNumber))} {
		b := []byte(log(l...) + behind)
		for n, after := range [][]int64{{math.MinInt64, math.MinInt64 + 1, -1, 0, 1}, {2}, {3, 4, 6}, {7, 8, 127}, {128, 129, api.MaxNumber - 1}, {api.MaxNumber, api.MaxNumber + 1, 1 << 32, math.MaxInt64 - 1, math.MaxInt64}} {
			for _, index := range after {
				goesOver(t, wal.After(b, index), l[n:]...)
			}
		}
	}
	goesOver(t, wal.After([]byte(log(l[2], l[0], l[3])), 0), l[2])
	goesOver(t, wal.After([]byte(log(l[2], l[0], l[3])), 7))
	goesOver(t, wal.After([]byte(framed("none")+log(l...)), 0))
	for seed := range uint32(100) {
		l := someLog(chance(seed+2000), 20)
		b := []byte(log(l...))
		for _, one := range l {
			for index := one.Index - 1; index <= one.Index+1; index++ {
				at := slices.IndexFunc(l, func(b api.Batch) bool { return b.Index > index })
				if at < 0 {
					at = len(l)
				}
				goesOver(t, wal.After(b, index), l[at:]...)
			}
		}
	}
}

// P13.2: it may be left at any time, and gone through as often as one likes, also within itself.
func TestAfterIsLeftAndGoneThroughAgain(t *testing.T) {
	l := []api.Batch{batch(2, put("a", 5, "x")), batch(3), batch(7, del("b", 9)), batch(8, put("a", 6, "y"))}
	for _, behind := range []string{"", "rest", framed("none"), log(batch(1))} {
		for n := range len(l) + 1 {
			index := int64(0)
			if n > 0 {
				index = l[n-1].Index
			}
			all := wal.After([]byte(log(l...)+behind), index)
			for most := range len(l) + 2 {
				calls := 0
				all(func(one api.Batch) bool {
					if !wal.Same(one, l[n+calls]) {
						t.Fatalf("the batch %d behind %d: %s", calls, index, tell([]api.Batch{one}))
					}
					goesOver(t, all, l[n:]...)
					calls++
					return calls < most
				})
				if want := min(max(most, 1), len(l)-n); calls != want {
					t.Fatalf("left behind %d of %d: %d calls", most, len(l)-n, calls)
				}
			}
			goesOver(t, all, l[n:]...)
		}
	}
}

// P13.2: batches are told as they are when it begins, whatever becomes of the bytes by the way.
func TestAfterAsItBegins(t *testing.T) {
	l := []api.Batch{batch(2, put("a", 5, "x")), batch(3), batch(7, del("b", 9))}
	b := []byte(log(l...))
	all := wal.After(b, 1)
	n := 0
	for one := range all {
		if !wal.Same(one, l[n]) {
			t.Errorf("the batch %d: %s", n, tell([]api.Batch{one}))
		}
		clear(b)
		copy(b[n:], log(batch(9)))
		n++
	}
	if n != len(l) {
		t.Errorf("%d of %d batches", n, len(l))
	}
	goesOver(t, all, l...)
}

// spoil writes over all of a batch, and behind it.
func spoil(b api.Batch) {
	for _, e := range b.Entries {
		for _, s := range [][]byte{e.Key, e.Value} {
			for i := range s {
				s[i] = '!'
			}
			_ = append(s, "!!!!!!!!"...)
		}
	}
	clear(b.Entries)
	_ = append(b.Entries, api.Entry{Key: []byte("!"), Seq: 99, Kind: 99})
}

// P13.2 (and the rules for all layers): what is answered is new memory, no two things of it share any, and the bytes are not kept.
func TestLooksAreNewMemory(t *testing.T) {
	l := []api.Batch{batch(2, put("ab", 5, "xy"), put("cd", 4, ""), del("ef", 3)), batch(3, put("gh", 7, "z")), batch(4)}
	want := log(l...)
	b := []byte(want)
	all := wal.After(b, 0)
	for range 2 {
		n := 0
		for one := range all {
			if !wal.Same(one, l[n]) {
				t.Fatalf("the batch %d: %s", n, tell([]api.Batch{one}))
			}
			spoil(one)
			n++
		}
		if n != len(l) || string(b) != want {
			t.Fatalf("what After tells is the caller's memory: %d, %s", n, head(string(b)))
		}
	}
	got, _, _ := wal.Batches(b)
	for i := range got {
		for k := range got[i].Entries {
			spoil(api.Batch{Entries: got[i].Entries[k : k+1 : k+1]})
			if !same(got[i+1:], l[i+1:]) || !slices.EqualFunc(got[i].Entries[k+1:], l[i].Entries[k+1:], func(a, b api.Entry) bool { return bytes.Equal(a.Key, b.Key) && bytes.Equal(a.Value, b.Value) }) {
				t.Fatalf("two things that Batches answers share memory: %s", tell(got))
			}
		}
	}
	if string(b) != want {
		t.Fatalf("what Batches answers is the caller's memory: %s", head(string(b)))
	}
	got, _, _ = wal.Batches(b)
	clear(b)
	if !same(got, l) {
		t.Errorf("what Batches answers changes with the bytes: %s", tell(got))
	}
	goesOver(t, all, l...)
}

// P13.2: long logs, and long batches.
func TestLongLogs(t *testing.T) {
	var l []api.Batch
	for i := range 30000 {
		l = append(l, batch(int64(2*i+1), put("a", int64(i+1), "x")))
	}
	b := log(l...)
	says(t, b, l, len(b), true)
	says(t, b[:len(b)-1], l[:len(l)-1], len(log(l[:len(l)-1]...)), true)
	goesOver(t, wal.After([]byte(b), 30001), l[15001:]...)
	l = []api.Batch{batch(3, slices.Repeat([]api.Entry{del("a", 5)}, api.MaxList)...), fill(api.MaxPayload), batch(8)}
	b = log(l...)
	says(t, b, l, len(b), true)
	says(t, b+strings.Repeat("\x00", 7), l, len(b), true)
}
