package parens_test

import (
	"math"
	"strings"
	"testing"
)

func TestRanksByHand(t *testing.T) {
	v := of("(()())") // 11, as in the document
	for _, c := range []struct {
		i, rank, excess, one int
	}{
		{math.MinInt, 0, 0, -1}, {-1, 0, 0, -1}, {0, 0, 0, 0}, {1, 1, 1, 1}, {2, 2, 2, 3}, {3, 2, 1, -1}, {4, 3, 2, -1}, {5, 3, 1, -1}, {6, 3, 0, -1}, {7, 3, 0, -1}, {64, 3, 0, -1}, {math.MaxInt, 3, 0, -1},
	} {
		if rank, excess, one := v.Rank(c.i), v.Excess(c.i), v.Select(c.i); rank != c.rank || excess != c.excess || one != c.one {
			t.Errorf("at %d: Rank %d, Excess %d, Select %d", c.i, rank, excess, one)
		}
	}
	// An excess may be below 0, and what is behind the end is as the end.
	w := of("))()" + strings.Repeat(")", 70))
	if w.Excess(1) != -1 || w.Excess(2) != -2 || w.Excess(3) != -1 || w.Excess(74) != -72 || w.Excess(75) != -72 || w.Excess(math.MaxInt) != -72 || w.Rank(75) != 1 {
		t.Error("of what closes too often")
	}
	// Ones that have words between them.
	far := of("(" + strings.Repeat(")", 300) + "((")
	if far.Select(0) != 0 || far.Select(1) != 301 || far.Select(2) != 302 || far.Select(3) != -1 || far.Rank(301) != 1 || far.Rank(302) != 2 {
		t.Error("of far ones")
	}
}

func TestPairsByHand(t *testing.T) {
	for _, c := range []struct {
		text                       string
		i                          int
		close, open, enclose, size int
	}{
		{"(()())", 0, 5, -1, -1, 3}, {"(()())", 1, 2, -1, 0, 1}, {"(()())", 2, -1, 1, 0, 0}, {"(()())", 3, 4, -1, 0, 1}, {"(()())", 4, -1, 3, 0, 0}, {"(()())", 5, -1, 0, -1, 0}, {"(()())", 6, -1, -1, -1, 0}, {"(()())", -1, -1, -1, -1, 0},
		{"((()))", 1, 4, -1, 0, 2}, {"((()))", 2, 3, -1, 1, 1}, {"((()))", 3, -1, 2, 1, 0}, {"((()))", 4, -1, 1, 0, 0},
		{"()()", 1, -1, 0, -1, 0}, {"()()", 2, 3, -1, -1, 1},
		// What has no other side.
		{"(", 0, -1, -1, -1, 0}, {")", 0, -1, -1, -1, 0}, {")(", 0, -1, -1, -1, 0}, {")(", 1, -1, -1, -1, 0}, {"(()", 0, -1, -1, -1, 0}, {"(()", 1, 2, -1, -1, 1}, {"(()", 2, -1, 1, -1, 0}, {"())", 0, 1, -1, -1, 1}, {"())", 2, -1, -1, -1, 0},
		{"((())", 1, 4, -1, -1, 2}, {"((())", 2, 3, -1, 1, 1}, {"((()", 2, 3, -1, -1, 1}, {"((()", 1, -1, -1, -1, 0},
		// Below 0, pairs are pairs too.
		{"))(()", 2, -1, -1, -1, 0}, {"))(()", 3, 4, -1, -1, 1}, {"))(())", 2, 5, -1, -1, 2}, {"))(())", 3, 4, -1, 2, 1}, {"))(())", 5, -1, 2, -1, 0}, {")(()))(", 1, 4, -1, -1, 2}, {")(()))(", 5, -1, -1, -1, 0}, {")(()))(", 6, -1, -1, -1, 0},
	} {
		v := of(c.text)
		if got := v.Close(c.i); got != c.close {
			t.Errorf("%s: Close(%d): %d, not %d", c.text, c.i, got, c.close)
		}
		if got := v.Open(c.i); got != c.open {
			t.Errorf("%s: Open(%d): %d, not %d", c.text, c.i, got, c.open)
		}
		if got := v.Enclose(c.i); got != c.enclose {
			t.Errorf("%s: Enclose(%d): %d, not %d", c.text, c.i, got, c.enclose)
		}
		if got := v.Size(c.i); got != c.size {
			t.Errorf("%s: Size(%d): %d, not %d", c.text, c.i, got, c.size)
		}
	}
}

func TestChildByHand(t *testing.T) {
	for _, c := range []struct {
		text       string
		i, k, want int
	}{
		{"(()())", 0, 0, 1}, {"(()())", 0, 1, 3}, {"(()())", 0, 2, -1}, {"(()())", 0, -1, -1}, {"(()())", 0, math.MinInt, -1}, {"(()())", 0, math.MaxInt, -1}, {"(()())", 1, 0, -1}, {"(()())", 2, 0, -1}, {"(()())", 5, 0, -1}, {"(()())", 6, 0, -1}, {"(()())", -1, 0, -1},
		{"((())())", 0, 0, 1}, {"((())())", 0, 1, 5}, {"((())())", 1, 0, 2}, {"((())())", 1, 1, -1}, {"()()", 0, 0, -1}, {"()()", 0, 1, -1}, {"()()", -1, 0, -1},
		// What isn't closed has none.
		{"(()", 0, 0, -1}, {"(()())(", 6, 0, -1}, {"((())", 0, 0, -1}, {"((())", 1, 0, 2}, {"))(()", 2, 0, -1}, {"))(())", 2, 0, 3}, {"))(())", 2, 1, -1},
		// What stands behind the pair is not its own.
		{"(())(())", 0, 1, -1}, {"((()))()", 1, 1, -1}, {"(())()", 0, 1, -1}, {"((())())", 2, 0, -1},
	} {
		if got := of(c.text).Child(c.i, c.k); got != c.want {
			t.Errorf("%s: Child(%d, %d): %d, not %d", c.text, c.i, c.k, got, c.want)
		}
	}
}

// TestFar asks for what has many words, and blocks of words, between its two sides.
func TestFar(t *testing.T) {
	const half = 1 << 19
	wide := of("(" + strings.Repeat("()", half) + ")()")
	last := 2*half + 1
	if wide.Close(0) != last || wide.Open(last) != 0 || wide.Size(0) != half+1 || wide.Enclose(last-1) != 0 || wide.Enclose(last) != -1 || wide.Enclose(last+1) != -1 || wide.Open(last+2) != last+1 {
		t.Error("of a wide pair")
	}
	deep := of(strings.Repeat("(", half) + strings.Repeat(")", half))
	for i := 0; i < half; i += 37 {
		if wide.Child(0, i) != 2*i+1 || wide.Enclose(2*i+1) != 0 || wide.Enclose(2*i+2) != 0 || wide.Select(i+1) != 2*i+1 {
			t.Fatalf("of a wide pair's child %d: %d", i, wide.Child(0, i))
		}
		if c := 2*half - 1 - i; deep.Close(i) != c || deep.Open(c) != i || deep.Size(i) != half-i || deep.Enclose(i) != i-1 || deep.Enclose(c) != i-1 || deep.Child(i, 0) != i+1 || deep.Child(i, 1) != -1 {
			t.Fatalf("of a deep pair at %d: %d", i, deep.Close(i))
		}
	}
	if wide.Child(0, half-1) != 2*half-1 || wide.Child(0, half) != -1 {
		t.Error("of a wide pair's last child")
	}
	open := of(strings.Repeat("(", 2*half))
	shut := of(strings.Repeat(")", 2*half))
	for i := 0; i < 2*half; i += 3 {
		if open.Close(i) != -1 || open.Enclose(i) != -1 || shut.Open(i) != -1 || shut.Enclose(i) != -1 {
			t.Fatalf("at %d there is a pair", i)
		}
	}
}
