package emit_test

import (
	"slices"
	"strings"
	"sync"
	"testing"

	"lorgnette/api"
	"lorgnette/emit"
	"lorgnette/value"
)

// TestThereAndBack: a text is read as its value, in every style, and is that value's text again.
func TestThereAndBack(t *testing.T) {
	m := newMaker(4)
	for range 1000 {
		v := m.value(5)
		for _, s := range styles {
			b, err := emit.Text(v, s)
			if err != api.OK {
				t.Fatalf("Text of %s, %+v: %d", show(v), s, err)
			}
			read(t, b, arranged(v, s), api.OK)
			written(t, arranged(v, s), s, b, api.OK)
			copied(t, b, s, b, api.OK)
		}
	}
}

// TestThereAndBackOfTheDeepest does so at the limits of depth and of numbers.
func TestThereAndBackOfTheDeepest(t *testing.T) {
	for _, v := range []api.Value{within(null, 200), within(arr(), 199), underKeys(obj(), 199), underKeys(text("é"), 200), literal(strings.Repeat("9", 400)), literal("-9.99e10000"), literal("1e-10000")} {
		for _, s := range styles {
			b, _ := emit.Text(v, s)
			read(t, b, v, api.OK)
			copied(t, b, s, b, api.OK)
		}
	}
}

// TestTextsOfOneLine: without Indent and Tab no byte is below 32, and in ASCII none is above 126.
func TestTextsOfOneLine(t *testing.T) {
	m := newMaker(5)
	for range 2000 {
		v := m.value(5)
		for _, s := range styles {
			b, _ := emit.Text(v, s)
			_, hasLines := stepFor(s)
			if !hasLines && strings.ContainsFunc(b, func(r rune) bool { return r < 32 }) {
				t.Errorf("Text of %s, %+v: %q", show(v), s, b)
			}
			if s.Ascii && strings.ContainsFunc(b, func(r rune) bool { return r > 126 }) {
				t.Errorf("Text of %s, %+v: %q", show(v), s, b)
			}
		}
	}
}

// TestCopyOfCopy: what was handed on is handed on as it stands, and stands for the same.
func TestCopyOfCopy(t *testing.T) {
	m := newMaker(6)
	for range 10000 {
		b, s := m.spoilt(textOf(m.value(4), m.style())), m.style()
		first, is, err := emit.Copy([]byte(b), s)
		if is != (first == b) && err == api.OK {
			t.Errorf("Copy of %q, %+v: %q, %v", b, s, first, is)
		}
		if err != api.OK {
			continue
		}
		copied(t, first, s, first, api.OK)
		v, _ := emit.Parse([]byte(b))
		read(t, first, arranged(v, s), api.OK)
	}
}

// TestWhatIsReadMayBe: whatever was read may be, and has a text.
func TestWhatIsReadMayBe(t *testing.T) {
	m := newMaker(7)
	for range 10000 {
		b := m.spoilt(textOf(m.value(4), m.style()))
		if v, _ := emit.Parse([]byte(b)); !value.May(v) {
			t.Errorf("Parse of %q: %s", b, show(v))
		}
	}
}

// TestArgumentsStay: what is handed in stays, and is shared with nothing that is told.
func TestArgumentsStay(t *testing.T) {
	m := newMaker(8)
	for range 1000 {
		v, s := m.value(5), m.style()
		was := twin(v)
		before, _ := emit.Text(v, s)
		if !same(v, was) {
			t.Fatalf("Text of %s, %+v: now it is %s", show(was), s, show(v))
		}
		b := []byte(before)
		got, _ := emit.Parse(b)
		handedOn, _, _ := emit.Copy(b, s)
		emit.Plain(b, s)
		if string(b) != before {
			t.Fatalf("of %q: now it is %q", before, b)
		}
		slices.Reverse(b)
		if !same(got, arranged(v, s)) || handedOn != textOf(v, s) {
			t.Errorf("what was told of %q goes with its bytes", before)
		}
	}
}

// TestReadSharesNothing: what was read twice is two values, and the items of one are, too.
func TestReadSharesNothing(t *testing.T) {
	b := []byte(`[[1000000007,{"a":[1000000007]}],[1000000007,{"a":[1000000007]}]]`)
	first, _ := emit.Parse(b)
	second, _ := emit.Parse(b)
	was := twin(first)
	item := first.Arr[0]
	item.Arr[0].Num.Limbs[0] = 5
	item.Arr[1].Obj[0].Val.Arr[0] = text("spoilt")
	item.Arr[1].Obj[0].Key = "b"
	if !same(first.Arr[1], was.Arr[1]) || !same(second, was) {
		t.Errorf("now: %s and %s", show(first), show(second))
	}
}

// TestFromManySides calls from many sides at the same time.
func TestFromManySides(t *testing.T) {
	v := obj(field("b", arr(num(1), text("é"))), field("a", obj(field("d", null), field("c", arr()))))
	var all sync.WaitGroup
	for range 8 {
		all.Go(func() {
			for range 100 {
				for _, s := range styles {
					written(t, v, s, textOf(v, s), api.OK)
					copied(t, `{"b" : [1,"\u00e9"],"a":{"d":null,"c":[ ]}}`, s, textOf(v, s), api.OK)
				}
			}
		})
	}
	all.Wait()
}
