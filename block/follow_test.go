package block_test

import (
	"slices"
	"testing"

	"hectare/api"
	"hectare/block"
	"hectare/ikey"
	"hectare/skip"
)

// P8.3, P0.10: entries are read as they were; what was read is written so again.
func TestThereAndBack(t *testing.T) {
	for _, l := range lists() {
		b := made(t, l...)
		got, no := block.Read(b)
		if !same(got, l) || no != api.OK {
			t.Errorf("Read of Write of %s: %s, %v", tellAll(l), tellAll(got), no)
		}
		if again, no := block.Write(got...); !slices.Equal(again, b) || no != api.OK || block.Size(l...) != len(b) {
			t.Errorf("Write of Read of Write of %s: %d bytes, %v", tellAll(l), len(again), no)
		}
		readAs(t, b)
	}
}

// P8.3, P0.9: whatever few bytes there are, what is read is written so again.
func TestReadIsWritten(t *testing.T) {
	blocks := 0
	digits := "\x00\x01\x02\x03a\x7f\x80\xff"
	for n := range 8 * 8 * 8 * 8 * 8 { // all of five bytes of few values as an entry, and as one behind another one
		var b string
		for k, i := n, 0; i < 5; k, i = k/8, i+1 {
			b += digits[k%8:][:1]
		}
		for _, s := range []string{closed(b), closed("\x00\x01\x01\x02\x02", b), b + four(0), b, closed(b, "\x00\x01b\x05\x02")} {
			if readAs(t, []byte(s)) {
				blocks++
			}
		}
	}
	if blocks < 20 {
		t.Errorf("%d are blocks", blocks)
	}
}

// P8.3, P0.9: a byte changed, taken out, put in, anywhere, is read as the chapter's words have it.
func TestReadOfChangedBytes(t *testing.T) {
	blocks := 0
	for n, l := range [][]api.Entry{many(6), some(5, 50), some(6, 51), some(9, 52)} {
		b := made(t, l...)
		for at := range b {
			for c := 0; c < 256; c += 1 + n*n*n { // all, or some
				other := slices.Clone(b)
				other[at] = byte(c)
				if readAs(t, other) {
					blocks++
				}
				readAs(t, slices.Insert(slices.Clone(b), at, byte(c)))
			}
			readAs(t, slices.Delete(slices.Clone(b), at, at+1))
		}
	}
	if blocks < 100 {
		t.Errorf("%d are blocks", blocks)
	}
}

// P8.3: entries in a block are told as the table in memory tells them one by one.
func TestAsOneByOne(t *testing.T) {
	for seed := range uint32(30) {
		l := some(2+int(seed), seed)
		b := made(t, l...)
		memory := skip.New()
		for _, e := range l {
			memory.Put(e)
		}
		for _, key := range keysBy(l) {
			for _, seq := range []int64{0, 1, 50, 100, 297, 1000} {
				e, no := block.Get(b, []byte(key), seq)
				want, other := memory.Get([]byte(key), seq)
				if !ikey.Same(e, want) || no != other {
					t.Fatalf("Get(%.40q, %d) of %s: %s, %v", key, seq, tellAll(l), tell(e), no)
				}
			}
			if got := over(block.From(b, []byte(key))); !same(got, over(memory.From([]byte(key)))) {
				t.Fatalf("From(%.40q) of %s: %s", key, tellAll(l), tellAll(got))
			}
		}
	}
}

// P8.3: who reads all of a block at a number sees, key by key, what Get tells.
func TestGetAsLatest(t *testing.T) {
	for seed := range uint32(60) {
		l := some(20, seed+1000)
		b := made(t, l...)
		for _, seq := range []int64{1, 30, 60, 99, 150, 300} {
			var got []api.Entry
			var last []byte
			for e := range block.From(b, nil) {
				if string(e.Key) == string(last) {
					continue
				}
				last = e.Key
				if at, no := block.Get(b, e.Key, seq); no == api.OK {
					got = append(got, at)
				}
			}
			if want := over(ikey.Latest(l, seq)); !same(got, want) {
				t.Fatalf("at %d of %s: %s, want %s", seq, tellAll(l), tellAll(got), tellAll(want))
			}
		}
	}
}
