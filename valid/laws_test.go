package valid_test

import (
	"math/rand"
	"slices"
	"testing"

	"lorgnette/api"
	"lorgnette/valid"
)

// TestFirstBytes asks for the first k bytes alone, and for those with the byte k (and with what more a code point may take to go wrong).
func TestFirstBytes(t *testing.T) {
	for i, b := range streams() {
		depth := []int{0, 1, 2, 200}[i%4]
		spans, fault := valid.Check([]byte(b), depth)
		alone, first := valid.Check([]byte(b[:fault.At]), depth)
		if first.At != fault.At || first.Why != api.WhyNone && first.Why != api.WhyEnd {
			t.Errorf("%q, %d: %v, the first bytes alone: %v", b, depth, fault, first)
		}
		if len(alone) < len(spans) || !slices.Equal(alone[:len(spans)], spans) {
			t.Errorf("%q, %d: %v, the first bytes alone: %v", b, depth, spans, alone)
		}
		if fault.Why != api.WhyByte && fault.Why != api.WhyDepth {
			if fault.At != len(b) {
				t.Errorf("%q, %d: %v", b, depth, fault)
			}
			continue
		}
		more := 1
		if b[fault.At] > 127 {
			more = 4
		}
		if _, with := valid.Check([]byte(b[:min(fault.At+more, len(b))]), depth); with != fault {
			t.Errorf("%q, %d: %v, with the byte there: %v", b, depth, fault, with)
		}
	}
}

// TestAllBeginnings asks that each beginning of what begins a stream begins one.
func TestAllBeginnings(t *testing.T) {
	chance := rand.New(rand.NewSource(99))
	for range 1000 {
		b := anyStream(chance)
		for n := range len(b) + 1 {
			if _, f := valid.Check([]byte(b[:n]), 200); f.At != n || f.Why != api.WhyNone && f.Why != api.WhyEnd {
				t.Errorf("Check(%q): %v", b[:n], f)
			}
		}
	}
}

func TestSpansRise(t *testing.T) {
	for i, b := range streams() {
		spans, fault := valid.Check([]byte(b), i%5)
		last := -1 // one blank at least stands between two
		for _, s := range spans {
			if s.From <= last || s.To <= s.From || s.To > fault.At || !valid.One([]byte(b[s.From:s.To])) {
				t.Errorf("Check(%q): %v, %v", b, spans, fault)
			}
			last = s.To
		}
	}
}

// TestTwoStreamsAreOne lays two streams one behind the other, with a blank between.
func TestTwoStreamsAreOne(t *testing.T) {
	chance := rand.New(rand.NewSource(999))
	for i := range 3000 {
		a, b := anyStream(chance), anyStream(chance)
		blank := " \t\n\r"[i%4 : i%4+1]
		first, f := valid.Check([]byte(a), 9)
		second, g := valid.Check([]byte(b), 9)
		both, h := valid.Check([]byte(a+blank+b), 9)
		if f != (api.Fault{At: len(a)}) || g != (api.Fault{At: len(b)}) || h != (api.Fault{At: len(a) + 1 + len(b)}) {
			t.Errorf("%q, %q: %v, %v, %v", a, b, f, g, h)
		}
		for _, s := range second {
			first = append(first, api.Span{From: s.From + len(a) + 1, To: s.To + len(a) + 1})
		}
		if !slices.Equal(both, first) {
			t.Errorf("%q, %q: %v, not %v", a, b, both, first)
		}
	}
}

// TestOneIsAStream holds One against Check.
func TestOneIsAStream(t *testing.T) {
	for _, b := range streams() {
		spans, f := valid.Check([]byte(b), 200)
		want := f.Why == api.WhyNone && slices.Equal(spans, []api.Span{{From: 0, To: len(b)}})
		if one := valid.One([]byte(b)); one != want {
			t.Errorf("One(%q): %v", b, one)
		}
	}
}

// TestBytesStay asks that nothing that is handed in changes, or is shared with what is told, or kept.
func TestBytesStay(t *testing.T) {
	text := `[1, "a"] {"b": null} 2 x`
	b := []byte(text)
	spans, fault := valid.Check(b, 9)
	valid.One(b)
	if string(b) != text {
		t.Error("bytes that were handed in have changed")
	}
	want := slices.Clone(spans)
	clear(b)
	valid.Check([]byte(`[[{"a":[`), 200)
	if !slices.Equal(spans, want) {
		t.Error("what was told has changed")
	}
	clear(spans)
	if again, f := valid.Check([]byte(text), 9); !slices.Equal(again, want) || f != fault {
		t.Error("something is kept:", again, f)
	}
}
