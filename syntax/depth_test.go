package syntax_test

import (
	"math"
	"testing"

	"lorgnette/api"
	"lorgnette/syntax"
)

// chain is a node within others, so many in all, each with kids beside it.
func chain(levels int, ahead, behind []api.Node) api.Node {
	n := api.Node{}
	for i := 1; i < levels; i++ {
		kids := append(append([]api.Node{}, ahead...), n)
		n = api.Node{Kind: i - 5, Text: "x", Kids: append(kids, behind...)}
	}
	return n
}

func depthIs(t *testing.T, n api.Node, want int) {
	t.Helper()
	if got := syntax.Depth(n); got != want {
		t.Errorf("Depth: %d, not %d", got, want)
	}
}

func TestDepth(t *testing.T) {
	leaf := api.Node{Kind: api.NodeNone}
	two := api.Node{Kids: []api.Node{leaf}}
	three := api.Node{Kids: []api.Node{leaf, two, leaf}}
	for _, n := range []api.Node{{}, {Kind: api.NodePipe}, {Kind: -1, Text: "x"}, {Kind: math.MaxInt}, {Kids: []api.Node{}}} {
		depthIs(t, n, 1)
	}
	depthIs(t, two, 2)
	depthIs(t, api.Node{Kind: math.MinInt, Kids: make([]api.Node, 10000)}, 2)
	depthIs(t, three, 3)
	depthIs(t, api.Node{Kids: []api.Node{three, two, leaf}}, 4)
	depthIs(t, api.Node{Kids: []api.Node{leaf, two, three}}, 4)
	for levels := 1; levels < 300; levels++ {
		want := min(levels, 201)
		depthIs(t, chain(levels, nil, nil), want)
		depthIs(t, chain(levels, []api.Node{leaf}, []api.Node{leaf}), want)
		depthIs(t, chain(levels, nil, []api.Node{leaf, leaf}), want)
		depthIs(t, api.Node{Kids: []api.Node{leaf, chain(levels, nil, nil), three}}, min(max(levels+1, 4), 201))
		depthIs(t, api.Node{Kids: []api.Node{chain(levels, nil, nil), chain(levels/2+1, nil, nil)}}, min(levels+1, 201))
		depthIs(t, api.Node{Kids: []api.Node{chain(levels/2+1, nil, nil), chain(levels, nil, nil)}}, min(levels+1, 201))
	}
	depthIs(t, chain(100000, nil, nil), 201)
	depthIs(t, chain(5000, []api.Node{three}, []api.Node{three}), 201)
}

// TestDepthOfEndless asks of nodes that have themselves within.
func TestDepthOfEndless(t *testing.T) {
	for _, width := range []int{1, 2, 3, 1000} {
		l := make([]api.Node, width)
		for i := range l {
			l[i].Kids = l
		}
		depthIs(t, l[0], 201)
		depthIs(t, api.Node{Kids: []api.Node{{}, l[width-1], {}}}, 201)
		last := make([]api.Node, width)
		last[width-1].Kids = last
		depthIs(t, last[width-1], 201)
	}
}

// TestDepthOfWide asks of trees with many kids on each level.
func TestDepthOfWide(t *testing.T) {
	n := api.Node{}
	for depth := 1; depth <= 7; depth++ {
		depthIs(t, n, depth)
		kids := make([]api.Node, 7)
		for i := range kids {
			kids[i] = n
		}
		n = api.Node{Kids: kids}
	}
}
