package wal_test

import (
	"slices"
	"testing"

	"hectare/api"
	"hectare/wal"
)

// P13.3, P0.2: of what was put, rising, of which any first part is there, just the batches that are there whole are told, and all is well.
func TestFirstParts(t *testing.T) {
	for seed := range uint32(60) {
		l := someLog(chance(seed+3000), 1+int(seed%6))
		b := ""
		var ends []int
		for _, one := range l {
			b += written(t, one)
			ends = append(ends, len(b))
		}
		for n := range len(b) + 1 {
			whole := 0
			for whole < len(ends) && ends[whole] <= n {
				whole++
			}
			says(t, b[:n], l[:whole], len(log(l[:whole]...)), true)
		}
	}
}

// P13.3, P0.10: batches that were put are read as they were, at all edges, and behind them a first part of any other one, also of one that does not rise.
func TestThereAndBack(t *testing.T) {
	var rests []string
	for _, one := range []api.Batch{batch(1), batch(7, goods()...), batch(api.MaxNumber, put("a", 5, "x")), fill(api.MaxPayload)} {
		b := written(t, one)
		for _, n := range []int{0, 1, 7, 8, 9, len(b) / 2, len(b) - 1} {
			rests = append(rests, b[:n])
		}
	}
	for _, l := range [][]api.Batch{nil, {batch(3)}, {batch(3, goods()...)}, {batch(1, goods()[:3]...), batch(4), batch(300, goods()[3:]...)}} {
		b := ""
		for _, one := range l {
			b += written(t, one)
		}
		for _, rest := range rests {
			says(t, b+rest, l, len(b), true)
		}
	}
}

// P13.3, P0.10: what is read is written so again.
func TestReadIsWritten(t *testing.T) {
	for seed := range uint32(200) {
		b := log(someLog(chance(seed+4000), 8)...)
		l, size, _ := wal.Batches([]byte(b))
		again := ""
		for _, one := range l {
			if !wal.May(one) {
				t.Fatalf("%s is read, and may not be", tell([]api.Batch{one}))
			}
			again += written(t, one)
		}
		if again != b || size != len(b) {
			t.Fatalf("%s is written %s", head(b), head(again))
		}
	}
}

// P13.2, P13.3, P0.6: a bit turned, a byte changed, taken out, or put in, anywhere; what stands ahead of it is told.
func TestChanges(t *testing.T) {
	l := []api.Batch{batch(1, put("a", 5, "x")), batch(2), batch(300, del("b", 128), put("ab", 7, "value")), batch(301, del("c", 1))}
	b := log(l...)
	for at := range b {
		ahead := 0
		for len(log(l[:ahead+1]...)) <= at {
			ahead++
		}
		for bit := range 8 {
			other := []byte(b)
			other[at] ^= 1 << bit
			m := agrees(t, string(other))
			if len(m.l) != ahead || !same(m.l, l[:ahead]) {
				t.Fatalf("bit %d of the byte %d is turned: %s", bit, at, tell(m.l))
			}
			if at >= len(log(l[:ahead]...))+4 && m.well { // the length may come to be a greater one, as if torn
				t.Fatalf("bit %d of the byte %d is turned: all is well", bit, at)
			}
		}
		for _, c := range []byte{0, 1, 8, 0x10, 0x7F, 0x80, 0xFF} {
			other := []byte(b)
			other[at] = c
			agrees(t, string(other))
			agrees(t, string(slices.Insert([]byte(b), at, c)))
		}
		agrees(t, b[:at]+b[at+1:])
		agrees(t, b[at:])
	}
}

// P13.2, P0.9: payloads that are changed anywhere, with sums that are right.
func TestChangedPayloads(t *testing.T) {
	reads, none := 0, 0
	for _, one := range []api.Batch{batch(5), batch(300, del("b", 128)), batch(7, put("a", 5, "x"), del("ab", 7), put("c", 300, ""))} {
		payload := payloadOf(one)
		hold := func(other string) {
			m := agrees(t, log(batch(2))+framed(other)+log(batch(api.MaxNumber)))
			switch len(m.l) {
			case 3:
				reads++
			case 1:
				none++
			default:
				t.Fatalf("% x: %s", other, tell(m.l))
			}
			if m.well != (len(m.l) == 3) {
				t.Fatalf("% x: %v", other, m.well)
			}
		}
		for at := range payload {
			for c := range 256 {
				hold(payload[:at] + string([]byte{byte(c)}) + payload[at+1:])
				hold(payload[:at] + string([]byte{byte(c)}) + payload[at:])
			}
			hold(payload[:at] + payload[at+1:])
			if at > 0 {
				hold(payload[:at])
			}
		}
		for c := range 256 {
			hold(payload + string([]byte{byte(c)}))
		}
	}
	if reads < 1000 || none < 1000 {
		t.Errorf("%d are read, %d are none", reads, none)
	}
}

// P13.2, P0.9: short payloads of few values, and any bytes.
func TestAnyBytes(t *testing.T) {
	digits := []byte{0, 1, 2, 4, 6}
	reads, below := 0, 1
	for size := range 8 { // all of so many bytes behind the Index
		for n := range below {
			payload := []byte{7}
			for range size {
				payload = append(payload, digits[n%5])
				n /= 5
			}
			reads += len(agrees(t, framed(string(payload))).l)
		}
		below *= 5
	}
	if reads < 10 {
		t.Errorf("%d are read", reads)
	}
	for n := range 3000 {
		next := chance(uint32(n))
		b := make([]byte, n%40)
		for i := range b {
			b[i] = byte(next(n%255 + 2))
		}
		agrees(t, string(b))
		agrees(t, log(batch(1))+string(b))
		agrees(t, string(b)+log(batch(1)))
	}
}

// P13.2: batches, rising and not, frames that say none, torn and odd rests, one behind the other.
func TestAnyLogs(t *testing.T) {
	well, odd := 0, 0
	nones := []string{"\x00", "\x07", "\x07\x01\x01", "\x00\x01\x00", "a text"}
	for seed := range uint32(3000) {
		next := chance(seed + 5000)
		b := ""
		for range next(8) {
			switch next(12) {
			case 0:
				b += framed(nones[next(len(nones))])
			case 1:
				b += log(batch(int64(next(5))))
			default:
				b += log(batch(int64(len(b)+1), someEntry(next)))
			}
		}
		switch one := log(batch(1000, someEntry(next))); next(3) {
		case 0:
			b += one[:next(len(one))]
		case 1:
			b += one[:5+next(len(one)-5)] + "?????????????????????????"
		}
		if agrees(t, b).well {
			well++
		} else {
			odd++
		}
	}
	if well < 500 || odd < 500 {
		t.Errorf("%d are well, %d are odd", well, odd)
	}
}
