package marks_test

import (
	"bytes"
	"slices"
	"strings"
	"testing"

	"lorgnette/api"
	"lorgnette/marks"
)

func TestAsManyWordsAsAreNeeded(t *testing.T) {
	for n := range 300 {
		b := bytes.Repeat([]byte("["), n)
		x := marks.Build(b)
		if x.Len != n || len(x.Words) != (n+63)/64 {
			t.Errorf("%d bytes: Len %d, %d words", n, x.Len, len(x.Words))
		}
		if l, count := marks.Brackets(x); count != n || len(l) != (n+63)/64 {
			t.Errorf("%d brackets: %d, %d words", n, count, len(l))
		}
	}
}

func TestMarksRise(t *testing.T) {
	for _, b := range texts() {
		x := marks.Build([]byte(b))
		last := -1
		for _, m := range marks.Marks([]byte(b)) {
			if m.At <= last || m.At >= len(b) {
				t.Errorf("Marks(%q): %d behind %d", b, m.At, last)
			}
			last = m.At
			if w := x.Words[m.At/64]; bit(w.In, m.At%64) != (m.Kind == 34) || m.Kind == 34 && !bit(w.Quote, m.At%64) {
				t.Errorf("Marks(%q): %v stands in a string", b, m)
			}
		}
	}
}

// TestNextLeadsToMarks goes by Next from one mark to the next one, and passes by but the quotes that end strings.
func TestNextLeadsToMarks(t *testing.T) {
	for _, b := range texts() {
		x := marks.Build([]byte(b))
		i := 0
		for _, m := range marks.Marks([]byte(b)) {
			if m.Kind == 48 {
				continue
			}
			i = marks.Next(x, i)
			if i < len(b) && b[i] == '"' && i != m.At {
				i = marks.Next(x, i+1)
			}
			if i != m.At {
				t.Fatalf("%q: %d, not %d", b, i, m.At)
			}
			i++
		}
	}
}

// TestArgumentsStay asks that nothing that is handed in changes, or is shared with what is told.
func TestArgumentsStay(t *testing.T) {
	text := strings.Repeat(`["\"x"],{"a": 1}`, 20)
	b := []byte(text)
	l := [][]byte{b[:10], nil, b[10:80], b[80:]}
	first := marks.Build(b)
	second := marks.Chunks(l)
	seen := marks.Marks(b)
	if string(b) != text || len(l) != 4 || string(l[0]) != text[:10] || l[1] != nil || string(l[2]) != text[10:80] || string(l[3]) != text[80:] {
		t.Error("bytes that were handed in have changed")
	}
	words := slices.Clone(first.Words)
	marks.Next(first, 3)
	brackets, _ := marks.Brackets(first)
	clear(brackets)
	clear(b)
	clear(second.Words)
	if !slices.Equal(first.Words, words) || !sameIndex(first, indexOf(text)) || !slices.Equal(seen, marksOf(text)) {
		t.Error("what was told has changed")
	}
	if again, _ := marks.Brackets(first); slices.Equal(again, brackets) {
		t.Error("brackets are kept")
	}
	if again := marks.Chunks(pieces([]string{text})); !sameIndex(again, first) {
		t.Error("an index is kept")
	}
}

// TestNothingIsKept asks for one text behind another that ends within a string, behind a backslash, or within a word.
func TestNothingIsKept(t *testing.T) {
	for _, ahead := range []string{`"`, `\`, `"\`, "[[[", strings.Repeat(`"`, 65)} {
		marks.Build([]byte(ahead))
		marks.Marks([]byte(ahead))
		if x := marks.Build([]byte(`"a"`)); !sameIndex(x, api.Index{Len: 3, Words: []api.Masks{{Quote: 5, In: 3}}}) {
			t.Errorf("behind %q: %x", ahead, x)
		}
	}
}
