package frame_test

import (
	"bytes"
	"encoding/binary"
	"fmt"
	"hash/crc32"
	"slices"
	"testing"

	"hectare/api"
	"hectare/frame"
)

// model is what bytes say, as the chapter's words have it: where their frames begin, the payloads, and what is behind them.
type model struct {
	at       []int
	payloads [][]byte
	rest     []byte
}

// spelt is a frame around any payload, also around one that may not be.
func spelt(payload []byte) []byte {
	return claiming(uint32(len(payload)), payload)
}

// claiming is a frame that says of its payload that it has so many bytes; its sum is right.
func claiming(length uint32, payload []byte) []byte {
	b := binary.BigEndian.AppendUint32(nil, length)
	sum := crc32.Update(crc32.Checksum(b, castagnoli()), castagnoli(), payload)
	b = binary.BigEndian.AppendUint32(b, sum)
	return append(b, payload...)
}

func castagnoli() *crc32.Table {
	return crc32.MakeTable(crc32.Castagnoli)
}

// said answers what b says.
func said(b []byte) model {
	m := model{rest: b}
	for at := 0; ; {
		if len(m.rest) < 8 {
			return m
		}
		length := int64(binary.BigEndian.Uint32(m.rest))
		if length < 1 || length > 1<<20 || length > int64(len(m.rest))-8 {
			return m
		}
		payload := m.rest[8 : 8+length]
		if !bytes.Equal(spelt(payload), m.rest[:8+length]) {
			return m
		}
		m.at, m.payloads = append(m.at, at), append(m.payloads, payload)
		at += 8 + len(payload)
		m.rest = b[at:]
	}
}

// torn tells whether rest is a first part of some frame.
func (m model) torn() bool {
	if len(m.rest) < 8 {
		return true
	}
	length := int64(binary.BigEndian.Uint32(m.rest))
	return length >= 1 && length <= 1<<20 && int64(len(m.rest))-8 < length
}

// some answers n bytes, by a rule.
func some(n int) []byte {
	x := uint32(n) + 1
	b := make([]byte, n)
	for i := range b {
		x = x*1664525 + 1013904223
		b[i] = byte(x >> 24)
	}
	return b
}

// row is frames around these texts, one behind the other.
func row(payloads ...string) []byte {
	var b []byte
	for _, s := range payloads {
		b = append(b, spelt([]byte(s))...)
	}
	return b
}

// head is how bytes are told where they don't agree.
func head(b []byte) string {
	return fmt.Sprintf("%d bytes, % x", len(b), b[:min(len(b), 40)])
}

// agrees holds what all calls say of b against the model, and says that b stays as it is.
func agrees(t *testing.T, b []byte) {
	t.Helper()
	was := slices.Clone(b)
	m := said(b)
	var at []int
	var payloads [][]byte
	for i, payload := range frame.All(b) {
		at, payloads = append(at, i), append(payloads, payload)
	}
	if !slices.Equal(at, m.at) || !slices.EqualFunc(payloads, m.payloads, bytes.Equal) {
		t.Fatalf("All of %s: %d, %.20q, want %d, %.20q", head(b), at, payloads, m.at, m.payloads)
	}
	if n, size := frame.Whole(b); n != len(m.at) || size != len(b)-len(m.rest) {
		t.Fatalf("Whole of %s: %d, %d, want %d, %d", head(b), n, size, len(m.at), len(b)-len(m.rest))
	}
	if odd := frame.Odd(b); odd != (len(m.rest) > 0 && !m.torn()) {
		t.Fatalf("Odd of %s: %v", head(b), odd)
	}
	one := len(m.at) == 1 && len(m.rest) == 0
	payload, is := frame.One(b)
	if is != one || is && !bytes.Equal(payload, m.payloads[0]) || !is && payload != nil {
		t.Fatalf("One of %s: %.20q, %v", head(b), payload, is)
	}
	if !bytes.Equal(b, was) {
		t.Fatalf("%s are changed", head(was))
	}
}

// put answers the frame of a payload that may be.
func put(t *testing.T, payload []byte) []byte {
	t.Helper()
	b, e := frame.Put(payload)
	if e != api.OK {
		t.Fatalf("Put of %d bytes: %v", len(payload), e)
	}
	return b
}
