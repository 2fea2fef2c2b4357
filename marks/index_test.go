package marks_test

import (
	"math/rand"
	"strings"
	"testing"

	"lorgnette/api"
	"lorgnette/bitmap"
	"lorgnette/marks"
)

func TestBuildByHand(t *testing.T) {
	for _, c := range []struct {
		b    string
		want api.Index
	}{
		{"", api.Index{}},
		{" ", api.Index{Len: 1, Words: []api.Masks{{Space: 1}}}},
		{`{"a":1}`, api.Index{Len: 7, Words: []api.Masks{{Quote: 10, In: 6, Open: 1, Close: 64, Colon: 16}}}},
		{strings.Repeat("[", 64), api.Index{Len: 64, Words: []api.Masks{{Open: full}}}},
		{strings.Repeat("[", 65), api.Index{Len: 65, Words: []api.Masks{{Open: full}, {Open: 1}}}},
		// What one word carries to the next one: a string, and a backslash.
		{strings.Repeat(" ", 63) + `"]",`, api.Index{Len: 67, Words: []api.Masks{{Quote: 1 << 63, In: 1 << 63, Space: full >> 1}, {In: 1, Quote: 2, Comma: 4}}}},
		{strings.Repeat(" ", 63) + `\",`, api.Index{Len: 66, Words: []api.Masks{{Space: full >> 1}, {Comma: 2}}}},
		{strings.Repeat(" ", 62) + `\\"`, api.Index{Len: 65, Words: []api.Masks{{Space: full >> 2}, {Quote: 1, In: 1}}}},
	} {
		if got := marks.Build([]byte(c.b)); !sameIndex(got, c.want) {
			t.Errorf("Build(%q): %x, not %x", c.b, got, c.want)
		}
	}
	if x := marks.Build(nil); len(x.Words) != 0 || x.Len != 0 {
		t.Error("nothing has words", x)
	}
}

func TestBuild(t *testing.T) {
	for _, b := range texts() {
		if got, want := marks.Build([]byte(b)), indexOf(b); !sameIndex(got, want) {
			t.Errorf("Build(%q): %x, not %x", b, got, want)
		}
	}
}

// TestBuildIsBitmaps holds the words against bitmap's own.
func TestBuildIsBitmaps(t *testing.T) {
	for _, b := range texts() {
		var carry api.Carry
		for i, m := range marks.Build([]byte(b)).Words {
			var want api.Masks
			want, carry = bitmap.Scan([]byte(b[64*i:]), carry)
			if m != want {
				t.Errorf("Build(%q), word %d: %x, not %x", b, i, m, want)
			}
		}
	}
}

func TestChunksByHand(t *testing.T) {
	for _, l := range [][][]byte{nil, {}, {nil}, {{}, nil, {}}} {
		if x := marks.Chunks(l); len(x.Words) != 0 || x.Len != 0 {
			t.Errorf("Chunks(%q): %v", l, x)
		}
	}
	want := api.Index{Len: 7, Words: []api.Masks{{Quote: 10, In: 6, Open: 1, Close: 64, Colon: 16}}}
	for _, l := range [][]string{{`{"a":1}`}, {"", `{"a":1}`, ""}, {`{"`, ``, `a":1`, `}`}, {"{", `"`, "a", `"`, ":", "1", "}"}} {
		if x := marks.Chunks(pieces(l)); !sameIndex(x, want) {
			t.Errorf("Chunks(%q): %x", l, x)
		}
	}
}

// TestChunksInTwo cuts a text of some words at each place, and at each two.
func TestChunksInTwo(t *testing.T) {
	b := strings.Repeat(`["\"x\\\\"],{"a":1} `, 8) + `\`
	want := indexOf(b)
	for i := range len(b) + 1 {
		for j := i; j <= len(b); j++ {
			if x := marks.Chunks(pieces([]string{b[:i], b[i:j], b[j:]})); !sameIndex(x, want) {
				t.Fatalf("cut at %d and %d: %x", i, j, x)
			}
		}
	}
}

// TestChunks cuts each text into pieces of one length, and anywhere.
func TestChunks(t *testing.T) {
	chance := rand.New(rand.NewSource(777))
	for _, b := range texts() {
		want := indexOf(b)
		for _, n := range []int{1, 2, 63, 64, 65, 130} {
			if x := marks.Chunks(pieces(cut(b, func() int { return n }))); !sameIndex(x, want) {
				t.Errorf("%q by %d: %x", b, n, x)
			}
		}
		for range 3 {
			l := cut(b, func() int { return chance.Intn(90) })
			if x := marks.Chunks(pieces(l)); !sameIndex(x, want) {
				t.Errorf("%q: %x", l, x)
			}
		}
	}
}

// cut makes pieces of the lengths that are asked for.
func cut(b string, length func() int) []string {
	var l []string
	for len(b) > 0 {
		n := min(length(), len(b))
		l = append(l, b[:n])
		b = b[n:]
	}
	return l
}

func pieces(l []string) [][]byte {
	var p [][]byte
	for _, s := range l {
		p = append(p, []byte(s))
	}
	return p
}
