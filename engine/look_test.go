package engine_test

import (
	"bytes"
	"slices"
	"strings"
	"testing"

	"hectare/api"
	"hectare/edit"
	"hectare/engine"
)

// layered is an engine whose keys are in memory, and in tables of several levels.
func layered(t *testing.T) *engine.Engine {
	t.Helper()
	e, _ := made(t)
	do(t, e, 1, "a=1 b=1 c=1 d=1 e=1")
	want(t, "Flush", e.Flush(), api.OK)
	do(t, e, 2, "b=2 f=2 g=2")
	want(t, "Flush", e.Flush(), api.OK)
	do(t, e, 3, "h=3 i=3")
	want(t, "Flush", e.Flush(), api.OK)
	do(t, e, 4, "a")
	want(t, "Flush", e.Flush(), api.OK)
	for more := true; more; {
		var no api.Errno
		more, no = e.Compact()
		want(t, "Compact", no, api.OK)
	}
	do(t, e, 5, "c g=5 j=5")
	want(t, "Flush", e.Flush(), api.OK)
	do(t, e, 6, "d=6 k=6 h c=6")
	want(t, "Flush", e.Flush(), api.OK)
	do(t, e, 7, "d=7 i l=")
	v := e.Version()
	if len(edit.Of(v, 0)) != 2 || len(v.Tables) < 3 || e.At().Memory == 0 {
		t.Fatalf("%+v", v)
	}
	return e
}

const layers = "b=2 c=6 d=7 e=1 f=2 g=5 j=5 k=6 l="

// P14.2: Get: memory ahead of tables, younger ones ahead of elder ones; what is deleted is not there.
func TestGet(t *testing.T) {
	e := layered(t)
	has(t, e, layers)
	hasNot(t, e, "a", "h", "i", "m", "", "aa", "A", strings.Repeat("b", 33), strings.Repeat("b", 1000), "\x00", "\xff")
	for _, none := range nils() {
		value, is, no := none.Get([]byte("a"))
		want(t, "Get of none", no, api.ErrNil)
		isZero(t, value, is)
	}
	refused, _ := refusedEngine(t)
	value, is, no := refused.Get([]byte("a"))
	want(t, "Get of a refused one", no, api.ErrState)
	isZero(t, value, is)
}

// P14.2: Scan: from the one key on, below the other one, if there is an end.
func TestScan(t *testing.T) {
	e := layered(t)
	words := strings.Fields(layers)
	keys := []string{"", "a", "a\xff", "b", "b\x00", "c", "d", "e", "f", "g", "h", "i", "j", "k", "l", "l\x00", "m", "\xff", strings.Repeat("b", 40)}
	for _, from := range keys {
		for _, to := range keys {
			for _, end := range []bool{false, true} {
				var some []string
				for _, word := range words {
					if key, _, _ := strings.Cut(word, "="); key >= from && (!end || key < to) {
						some = append(some, word)
					}
				}
				if got := tellScan(e, from, to, end); got != strings.Join(some, " ") {
					t.Errorf("Scan(%q, %q, %v): %s, want %s", from, to, end, got, some)
				}
			}
		}
	}
	if got := tell(e); got != layers {
		t.Error(got)
	}
}

// P14.2: Scan of none, and of a refused one, goes over nothing; also of one that is refused behind the call.
func TestScanOfNone(t *testing.T) {
	for _, none := range nils() {
		for range none.Scan(nil, nil, false) {
			t.Error("a nil engine has something")
		}
	}
	refused, _ := refusedEngine(t)
	if got := tell(refused); got != "" {
		t.Error(got)
	}
	e, d := made(t)
	do(t, e, 1, "a=1")
	all := e.Scan(nil, nil, false)
	write(t, d, "other", make([]byte, d.Room()-d.Used()))
	want(t, "Do", e.Do(batch(2, "b=1")), api.ErrFull)
	for range all {
		t.Error("a refused engine has something")
	}
}

// P14.2: Scan may be left at any time, and gone through again.
func TestScanIsLeft(t *testing.T) {
	e := layered(t)
	words := strings.Fields(layers)
	all := e.Scan(nil, nil, false)
	for most := range len(words) + 1 {
		var got []string
		for p := range all {
			if len(got) == most {
				break
			}
			got = append(got, string(p.Key)+"="+string(p.Value))
		}
		if !slices.Equal(got, words[:most]) {
			t.Errorf("the first %d: %q", most, got)
		}
	}
	n := 0
	for range all {
		for range all {
			n++
		}
	}
	if n != len(words)*len(words) {
		t.Errorf("%d in one another", n)
	}
}

// P14.2: Scan goes over what is there when it begins, whatever is done by the way, also to the keys that it was given.
func TestScanAsItBegins(t *testing.T) {
	changes := map[string]func(*engine.Engine){
		"Do":      func(e *engine.Engine) { do(t, e, e.At().Index+1, "a=9 b c=9 z=9") },
		"Flush":   func(e *engine.Engine) { want(t, "Flush", e.Flush(), api.OK) },
		"Compact": func(e *engine.Engine) { e.Compact() },
		"Take":    func(e *engine.Engine) { want(t, "Take", e.Take(batch(e.At().Index+1, "a"), pairs("b=8 zz=8")), api.OK) },
		"Replace": func(e *engine.Engine) { want(t, "Replace", e.Replace(e.At().Index+1, pairs("q=1")), api.OK) },
	}
	for name, change := range changes {
		e := layered(t)
		from := []byte("a")
		to := []byte("m")
		all := e.Scan(from, to, true)
		from[0], to[0] = 'k', 'a'
		var words []string
		for p := range all {
			words = append(words, string(p.Key)+"="+string(p.Value))
			change(e)
			clear(p.Key)
			clear(p.Value)
		}
		if got := strings.Join(words, " "); got != layers {
			t.Errorf("%s by the way: %s", name, got)
		}
		var again []string
		for p := range all {
			again = append(again, string(p.Key)+"="+string(p.Value))
		}
		if got := strings.Join(again, " "); got != tellScan(e, "a", "m", true) {
			t.Errorf("%s by the way, and then: %s", name, got)
		}
	}
}

// P14.2: what is answered is the caller's.
func TestAnswersAreNewMemory(t *testing.T) {
	e := layered(t)
	for _, key := range []string{"b", "c", "d", "k"} {
		value, _, _ := e.Get([]byte(key))
		clear(value)
		_ = append(value[:0], "!!!!!!"...)
	}
	for p := range e.Scan(nil, nil, false) {
		clear(p.Key)
		clear(p.Value)
	}
	v := e.Version()
	for i := range v.Tables {
		clear(v.Tables[i].First)
		clear(v.Tables[i].Last)
		v.Tables[i].Number = 1
	}
	has(t, e, layers)
	if w := e.Version(); !edit.May(w) || edit.Same(v, w) || !bytes.Equal(edit.Of(w, 0)[0].First, []byte("c")) {
		t.Errorf("%+v", w)
	}
}

// P14.2: At and Version of none; of a refused one as it was.
func TestAtAndVersion(t *testing.T) {
	for _, none := range nils() {
		isZero(t, none.At())
		if v := none.Version(); !edit.Same(v, api.Version{}) {
			t.Errorf("%+v", v)
		}
	}
	refused, d := refusedEngine(t)
	stands(t, refused, 5, 0, 2, 12, 0)
	whole(t, refused, d)
	e := layered(t)
	v := e.Version()
	if at := e.At(); at.Index != 7 || at.Flushed != 6 || at.Seq != 21 || at.Memory != 15 || at.Tables != len(v.Tables) || v.Index != 6 || v.Seq != 18 {
		t.Errorf("%+v, %+v", at, v)
	}
}
