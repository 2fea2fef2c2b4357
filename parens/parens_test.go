package parens_test

import (
	"math"
	"slices"
	"testing"

	"lorgnette/parens"
)

// TestModel holds every call against the document's words, of all vectors of up to 11 bits, and of many long ones.
func TestModel(t *testing.T) {
	for _, l := range small(11) {
		hold(t, l)
	}
	for _, l := range long() {
		hold(t, l)
	}
}

func TestLenByHand(t *testing.T) {
	three := []uint64{full, 0, 6}
	for _, c := range []struct {
		words   []uint64
		n, want int
	}{
		{nil, 0, 0}, {nil, 1, 0}, {nil, -1, 0}, {nil, math.MaxInt, 0}, {[]uint64{}, 64, 0},
		{three, math.MinInt, 0}, {three, -64, 0}, {three, -1, 0}, {three, 0, 0}, {three, 1, 1}, {three, 63, 63}, {three, 64, 64}, {three, 65, 65}, {three, 191, 191}, {three, 192, 192}, {three, 193, 192}, {three, 1000, 192}, {three, math.MaxInt, 192},
	} {
		if got := parens.New(c.words, c.n).Len(); got != c.want {
			t.Errorf("New(%x, %d): Len %d, not %d", c.words, c.n, got, c.want)
		}
	}
}

func TestOpensByHand(t *testing.T) {
	v := parens.New([]uint64{1<<63 | 5, 2, full}, 130)
	var opens []int
	for i := -200; i < 300; i++ {
		if v.Opens(i) {
			opens = append(opens, i)
		}
	}
	if want := []int{0, 2, 63, 65, 128, 129}; !slices.Equal(opens, want) {
		t.Errorf("open: %v, not %v", opens, want)
	}
	for _, i := range odd {
		if v.Opens(i) {
			t.Errorf("Opens(%d)", i)
		}
	}
}

// TestBitsBehindCountNot asks for vectors of less bits than were handed in.
func TestBitsBehindCountNot(t *testing.T) {
	words := []uint64{full, full, full}
	for n := range 193 {
		v := parens.New(words, n)
		if v.Rank(math.MaxInt) != n || v.Rank(n+1) != n || v.Excess(math.MaxInt) != n || v.Select(n) != -1 || n > 0 && v.Select(n-1) != n-1 || v.Opens(n) || v.Enclose(n) != -1 {
			t.Errorf("of %d: %d ones, excess %d, the last one at %d", n, v.Rank(math.MaxInt), v.Excess(math.MaxInt), v.Select(n-1))
		}
	}
	if v := parens.New([]uint64{1}, 1); v.Close(0) != -1 || v.Size(0) != 0 || v.Child(0, 0) != -1 {
		t.Error("1 is closed by bits that aren't its own")
	}
	if v := parens.New([]uint64{3}, 0); v.Opens(0) || v.Rank(1) != 0 || v.Select(0) != -1 {
		t.Error("0 bits have some")
	}
}

// TestNobodysVectors asks for a vector that is nil, and for ones that no New gave.
func TestNobodysVectors(t *testing.T) {
	var none *parens.Vector
	empty := parens.New(nil, 5)
	for what, v := range map[string]*parens.Vector{"nil": none, "zero": {}, "new": new(parens.Vector), "empty": empty} {
		for _, i := range append([]int{0, 1, 2, 64, 65}, odd...) {
			if v.Len() != 0 || v.Opens(i) || v.Rank(i) != 0 || v.Excess(i) != 0 || v.Select(i) != -1 {
				t.Errorf("%s: a bit at %d", what, i)
			}
			if v.Close(i) != -1 || v.Open(i) != -1 || v.Enclose(i) != -1 || v.Size(i) != 0 || v.Child(i, 0) != -1 || v.Child(i, i) != -1 {
				t.Errorf("%s: a pair at %d", what, i)
			}
		}
		if v != empty && v.Directory() != 0 {
			t.Errorf("%s: Directory %d", what, v.Directory())
		}
	}
}

// TestArgumentsStay asks that words neither change nor are kept, and that of two vectors none knows the other.
func TestArgumentsStay(t *testing.T) {
	words := []uint64{11, full, 3}
	v := parens.New(words, 70)
	if !slices.Equal(words, []uint64{11, full, 3}) {
		t.Errorf("words have become %x", words)
	}
	clear(words)
	w := parens.New(words, 190)
	if v.Len() != 70 || v.Rank(70) != 9 || !v.Opens(64) || v.Close(0) != 5 || v.Child(0, 1) != 3 {
		t.Error("a vector has changed with the words it was made of")
	}
	if w.Len() != 190 || w.Rank(190) != 0 {
		t.Error("a vector has another one's bits")
	}
	for range 2 {
		if v.Child(0, 1) != 3 || v.Child(0, 0) != 1 || v.Enclose(3) != 0 || v.Select(2) != 3 {
			t.Error("a call changes what the next one tells")
		}
	}
}

func TestDirectory(t *testing.T) {
	words := make([]uint64, 5000)
	for i := range words {
		words[i] = full << (i % 65)
	}
	for n := range 64 * 70 {
		holdDirectory(t, words, n)
	}
	for _, n := range []int{64*511 + 63, 64 * 512, 64*513 - 1, 64 * 4095, 64 * 4096, 64 * 4097, 64 * 5000} {
		holdDirectory(t, words, n)
	}
}

func holdDirectory(t *testing.T, words []uint64, n int) {
	t.Helper()
	v := parens.New(words, n)
	if got := v.Directory(); got < 0 || got > 5+5*(n/64) {
		t.Fatalf("of %d bits: %d numbers", n, got)
	}
	// Without numbers for each word, words aren't skipped.
	if got := v.Directory(); got < n/64 {
		t.Fatalf("of %d bits: %d numbers alone", n, got)
	}
}
