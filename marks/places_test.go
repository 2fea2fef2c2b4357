package marks_test

import (
	"math"
	"slices"
	"testing"

	"lorgnette/api"
	"lorgnette/marks"
)

func TestNextByHand(t *testing.T) {
	text := marks.Build([]byte(`[1, "a:"]`))
	one := func(m api.Masks, n int) api.Index {
		return api.Index{Words: []api.Masks{m}, Len: n}
	}
	for _, c := range []struct {
		x       api.Index
		i, want int
	}{
		{text, 0, 0}, {text, 1, 2}, {text, 2, 2}, {text, 3, 4}, {text, 4, 4}, {text, 5, 7}, {text, 7, 7}, {text, 8, 8}, {text, 9, 9}, {text, 10, 9}, {text, 64, 9}, {text, math.MaxInt, 9}, {text, -1, 0}, {text, math.MinInt, 0},
		{api.Index{}, 0, 0}, {api.Index{}, -1, 0}, {api.Index{}, 1, 0},
		// One mask of each kind, and the two that are no places.
		{one(api.Masks{Quote: 8}, 64), 0, 3}, {one(api.Masks{Open: 8}, 64), 0, 3}, {one(api.Masks{Close: 8}, 64), 0, 3}, {one(api.Masks{Colon: 8}, 64), 0, 3}, {one(api.Masks{Comma: 8}, 64), 0, 3}, {one(api.Masks{In: 8}, 64), 0, 64}, {one(api.Masks{Space: 8}, 64), 0, 64},
		// In turns nothing.
		{one(api.Masks{Colon: 8, In: full, Space: full}, 64), 1, 3},
		// Beyond Len.
		{one(api.Masks{Open: 8}, 4), 0, 3}, {one(api.Masks{Open: 8}, 3), 0, 3}, {one(api.Masks{Open: 8}, 2), 0, 2}, {one(api.Masks{Open: 8}, 2), 3, 2}, {one(api.Masks{Open: 8}, 0), 0, 0}, {one(api.Masks{Open: full}, -1), 0, 0}, {one(api.Masks{Open: full}, -1), -1, 0}, {one(api.Masks{Open: full}, math.MinInt), math.MinInt, 0}, {one(api.Masks{Open: full}, 10), 10, 10}, {one(api.Masks{Open: full}, 10), 11, 10}, {one(api.Masks{Open: full}, 10), 9, 9},
		{api.Index{Words: []api.Masks{{}, {Open: full}}, Len: 64}, 0, 64}, {api.Index{Words: []api.Masks{{}, {Open: full}}, Len: 60}, 0, 60},
		// Of words that it hasn't: nothing.
		{one(api.Masks{Open: 8}, 1000), 4, 1000}, {one(api.Masks{Open: 8}, math.MaxInt), 4, math.MaxInt}, {one(api.Masks{Open: 8}, math.MaxInt), math.MaxInt - 1, math.MaxInt}, {api.Index{Len: math.MaxInt}, 0, math.MaxInt},
		// From one word to the next ones.
		{api.Index{Words: []api.Masks{{Open: 1}, {}, {Close: 2}}, Len: 192}, 1, 129}, {api.Index{Words: []api.Masks{{Open: 1 << 63}, {Comma: 1}}, Len: 65}, 63, 63}, {api.Index{Words: []api.Masks{{Open: 1 << 63}, {Comma: 1}}, Len: 65}, 64, 64}, {api.Index{Words: []api.Masks{{Open: 1 << 62}, {Comma: 1}}, Len: 65}, 63, 64}, {api.Index{Words: []api.Masks{{}, {Comma: 5}}, Len: 128}, 65, 66},
	} {
		if got := marks.Next(c.x, c.i); got != c.want {
			t.Errorf("Next(%x, %d): %d, not %d", c.x, c.i, got, c.want)
		}
	}
}

func TestNext(t *testing.T) {
	for _, b := range texts() {
		x := marks.Build([]byte(b))
		holdNext(t, x)
	}
	for _, x := range oddIndexes() {
		holdNext(t, x)
	}
}

func holdNext(t *testing.T, x api.Index) {
	t.Helper()
	from := []int{math.MinInt, -64, -1, x.Len - 1, x.Len, x.Len + 1, math.MaxInt - 1, math.MaxInt}
	for i := range min(64*len(x.Words)+2, 330) {
		from = append(from, i)
	}
	for _, i := range from {
		if got, want := marks.Next(x, i), nextOf(x, i); got != want {
			t.Fatalf("Next(%x, %d): %d, not %d", x, i, got, want)
		}
	}
}

func TestBracketsByHand(t *testing.T) {
	for _, c := range []struct {
		words []api.Masks
		want  []uint64
		n     int
	}{
		{nil, nil, 0}, {[]api.Masks{{}, {}}, nil, 0}, {[]api.Masks{{In: full, Space: full, Quote: full, Colon: full, Comma: full}}, nil, 0},
		{[]api.Masks{{Close: 1}}, []uint64{0}, 1}, {[]api.Masks{{Open: 1}}, []uint64{1}, 1}, {[]api.Masks{{Open: 1 << 63}}, []uint64{1}, 1}, {[]api.Masks{{Open: 1, Close: 256}}, []uint64{1}, 2}, {[]api.Masks{{Open: 256, Close: 1}}, []uint64{2}, 2},
		{[]api.Masks{{Open: 0x70, Close: 0x80}, {}, {Close: 1, Open: 0x80}}, []uint64{0x27}, 6},
		// Where both masks have a bit, it opens, and counts once.
		{[]api.Masks{{Open: 6, Close: 12}}, []uint64{3}, 3}, {[]api.Masks{{Open: full, Close: full}}, []uint64{full}, 64}, {[]api.Masks{{Open: full, Close: full}, {Open: 1, Close: 3}}, []uint64{full, 1}, 66},
		// Words are filled up.
		{[]api.Masks{{Open: full >> 1}, {Close: 1, Open: 2}}, []uint64{full >> 1, 1}, 65}, {[]api.Masks{{Open: full >> 1}, {Close: 1}}, []uint64{full >> 1}, 64}, {[]api.Masks{{Close: full}, {Close: 1 << 40}}, []uint64{0, 0}, 65}, {[]api.Masks{{Open: 1}, {Open: full}}, []uint64{full, 1}, 65},
	} {
		for _, n := range []int{math.MinInt, -1, 0, 1, 64, math.MaxInt} {
			got, count := marks.Brackets(api.Index{Words: c.words, Len: n})
			if !slices.Equal(got, c.want) || count != c.n {
				t.Errorf("Brackets(%x), Len %d: %x, %d, not %x, %d", c.words, n, got, count, c.want, c.n)
			}
		}
	}
	if got, n := marks.Brackets(marks.Build([]byte(`[1, "a:"]`))); n != 2 || !slices.Equal(got, []uint64{1}) {
		t.Error(got, n)
	}
	if got, n := marks.Brackets(marks.Build([]byte(`{"[{":[]}]`))); n != 5 || !slices.Equal(got, []uint64{3}) {
		t.Error(got, n)
	}
}

func TestBrackets(t *testing.T) {
	for _, b := range texts() {
		holdBrackets(t, marks.Build([]byte(b)))
	}
	for _, x := range oddIndexes() {
		holdBrackets(t, x)
	}
}

func holdBrackets(t *testing.T, x api.Index) {
	t.Helper()
	want, wantCount := bracketsOf(x)
	if got, n := marks.Brackets(x); n != wantCount || !slices.Equal(got, want) {
		t.Errorf("Brackets(%x): %x, %d, not %x, %d", x, got, n, want, wantCount)
	}
}
