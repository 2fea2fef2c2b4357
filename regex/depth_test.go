package regex_test

import (
	"math"
	"strings"
	"testing"

	"lorgnette/api"
	"lorgnette/regex"
)

// chain is a part within others, so many in all, each with kids beside it.
func chain(levels int, ahead, behind []api.Regex) api.Regex {
	x := api.Regex{}
	for i := 1; i < levels; i++ {
		kids := append(append([]api.Regex{}, ahead...), x)
		x = api.Regex{Kind: i%20 - 5, Rune: i, Kids: append(kids, behind...)}
	}
	return x
}

func depthIs(t *testing.T, x api.Regex, want int) {
	t.Helper()
	if got := regex.Depth(x); got != want {
		t.Errorf("Depth: %d, not %d", got, want)
	}
}

// TestDepth asks for the depth of trees, also such as no pattern has.
func TestDepth(t *testing.T) {
	leaf := sign('a')
	two := group(-1, "", leaf)
	three := alt(leaf, two, leaf)
	for _, x := range []api.Regex{{}, {Kind: api.ReSeq}, {Kind: -1, Name: "x"}, {Kind: math.MaxInt, Min: math.MinInt, Max: math.MaxInt}, {Kids: []api.Regex{}}, leaf, {Kind: api.ReRepeat, Min: 2, Max: 1, Lazy: true}, {Kind: api.ReRange, Rune: -1, To: -2, Not: true, Group: 7}} {
		depthIs(t, x, 1)
		depthIs(t, seq(x), 2)
		depthIs(t, seq(x, two, x), 3)
	}
	depthIs(t, two, 2)
	depthIs(t, three, 3)
	depthIs(t, seq(make([]api.Regex, 10000)...), 2)
	depthIs(t, seq(three, two, leaf), 4)
	depthIs(t, seq(leaf, two, three), 4)
	depthIs(t, api.Regex{Kind: api.ReRune, Kids: []api.Regex{two}}, 3) // of kinds that have no kids, too
	for _, levels := range []int{1, 2, 3, 7, 50, 199, 200, 201, 1000, 1998, 1999, 2000, 2001, 2002, 2003, 2500, 4000} {
		want := min(levels, 2001)
		depthIs(t, chain(levels, nil, nil), want)
		depthIs(t, chain(levels, []api.Regex{leaf}, []api.Regex{leaf}), want)
		depthIs(t, chain(levels, nil, []api.Regex{leaf, leaf}), want)
		depthIs(t, seq(leaf, chain(levels, nil, nil), three), min(max(levels+1, 4), 2001))
		depthIs(t, seq(chain(levels, nil, nil), chain(levels/2+1, nil, nil)), min(levels+1, 2001))
		depthIs(t, seq(chain(levels/2+1, nil, nil), chain(levels, nil, nil)), min(levels+1, 2001))
	}
	depthIs(t, chain(100000, nil, nil), 2001)
	depthIs(t, chain(5000, []api.Regex{three}, []api.Regex{three}), 2001)
}

// TestDepthOfEndless asks of parts that have themselves within.
func TestDepthOfEndless(t *testing.T) {
	for _, width := range []int{1, 2, 3, 1000} {
		l := make([]api.Regex, width)
		for i := range l {
			l[i].Kids = l
		}
		depthIs(t, l[0], 2001)
		depthIs(t, seq(api.Regex{}, l[width-1], api.Regex{}), 2001)
		last := make([]api.Regex, width)
		last[width-1].Kids = last
		depthIs(t, last[width-1], 2001)
	}
}

// TestDepthOfParsed asks of the trees of patterns.
func TestDepthOfParsed(t *testing.T) {
	for s, want := range map[string]int{"": 1, "a": 1, "ab": 2, "a*": 2, "[a]": 2, "[a-b]": 2, "(a)": 2, "((a))": 3, "(?:a)": 1, "(?:(?:ab))": 2, "a|bc": 3, "(a|bc)*": 5, "a(b[c])": 5, "a|(b|(c|d*))": 7} {
		depthIs(t, parsed(s, false).tree, want)
	}
	for levels := 1; levels <= 50; levels++ {
		depthIs(t, parsed(strings.Repeat("(", levels)+strings.Repeat(")", levels), false).tree, levels+1)
		depthIs(t, parsed(strings.Repeat("(?:a|b(", levels/2)+strings.Repeat("))*", levels/2), false).tree, 1+4*(levels/2))
	}
	m := newMaker(5)
	for i := range 2000 {
		x, _ := m.tree(1 + i%60)
		depthIs(t, x, deepest(x))
	}
}

// deepest is how deep a tree is.
func deepest(x api.Regex) int {
	below := 0
	for _, kid := range x.Kids {
		below = max(below, deepest(kid))
	}
	return 1 + below
}
