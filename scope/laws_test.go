package scope_test

import (
	"slices"
	"sync"
	"testing"

	"lorgnette/api"
	"lorgnette/grove"
	"lorgnette/scope"
)

// TestBoundAround binds names around trees: they, and no others, are free no more, where they are bound.
func TestBoundAround(t *testing.T) {
	t.Parallel()
	m := newMaker(3)
	taken := 0
	for i := range 3000 {
		n := m.tree(1 + i%50)
		names := freeIn(t, n)
		for _, h := range holders {
			if got := freeIn(t, held(grove.Of(h.text), n)); !slices.Equal(got, without(names, named(h.binds)...)) {
				t.Errorf("in %s: %.300s: %q, where %q are free within", h.text, grove.Show(n), got, names)
			} else if len(got) < len(names) {
				taken++
			}
		}
	}
	if taken < 10000 {
		t.Error("only", taken)
	}
}

// TestBoundWholly binds all names that are free in a tree, one by one, in any order: at last none is.
func TestBoundWholly(t *testing.T) {
	t.Parallel()
	m := newMaker(4)
	for i := range 2000 {
		n := m.tree(1 + i%50)
		left := freeIn(t, n)
		for len(left) > 0 {
			at := m.Intn(len(left))
			n = binding(left[at], n)
			left = slices.Delete(slices.Clone(left), at, at+1)
			free(t, n, left...)
		}
	}
}

// binding is a filter that binds one name around another one.
func binding(name string, n api.Node) api.Node {
	switch name[0] {
	case '$':
		return grove.Node(api.NodeBind, "", grove.Self(), grove.Var(name[1:]), n)
	case '*':
		return grove.Node(api.NodeLabel, name[1:], n)
	}
	var kids []api.Node
	for range int(name[len(name)-1] - '0') {
		kids = append(kids, grove.Node(api.NodeParam, "p"))
	}
	return grove.Node(api.NodeDef, name[:len(name)-2], append(kids, grove.Self(), n)...)
}

// TestUnion: where nothing is bound, what is free in a node is what is free in its kids.
func TestUnion(t *testing.T) {
	t.Parallel()
	m := newMaker(5)
	for i := range 5000 {
		a, b, c := m.tree(1+i%40), m.tree(1+i%30), m.tree(1+i%20)
		inA, inB, inC := freeIn(t, a), freeIn(t, b), freeIn(t, c)
		free(t, grove.Node(api.NodePipe, "", a, b), union(inA, inB)...)
		free(t, grove.Node(api.NodePipe, "", b, a), union(inB, inA)...)
		free(t, grove.Node(api.NodePipe, "", a, grove.Node(api.NodePipe, "", b, c)), union(inA, inB, inC)...)
		free(t, grove.Node(api.NodePipe, "", grove.Node(api.NodePipe, "", a, b), c), union(inA, inB, inC)...)
		free(t, grove.Node(api.NodePipe, "", a, a), inA...)
		free(t, grove.Node(api.NodeIf, "", c, b, a), union(inC, inB, inA)...)
		free(t, grove.Node(api.NodeObject, "", grove.Entry(a, c), grove.Entry(b, a)), union(inA, inC, inB)...)
		free(t, grove.Node(api.NodeCall, "f", a, b, c), union([]string{"f/3"}, inA, inB, inC)...)
		free(t, grove.Text(b, a, grove.Part("$x"), c), union(inB, inA, inC)...)
	}
}

// TestArgumentsStay: what is handed in is as it was, and what was told stays, whatever becomes of it.
func TestArgumentsStay(t *testing.T) {
	m := newMaker(6)
	for i := range 3000 {
		n := m.tree(1 + i%40)
		twin := grove.Twin(n)
		names := freeIn(t, n)
		known := m.some(names)
		same := slices.Clone(known)
		first, _ := scope.Check(n, known)
		if !grove.Same(n, twin) || !slices.Equal(known, same) {
			t.Errorf("%.300s became %.300s, and %q became %q", grove.Show(twin), grove.Show(n), same, known)
		}
		grove.Spoil(n)
		clear(known)
		free(t, twin, names...)
		check(t, twin, same, first)
		again := freeIn(t, twin)
		clear(names[:cap(names)])
		free(t, twin, again...)
	}
}

// TestFromManySides calls from many sides at the same time.
func TestFromManySides(t *testing.T) {
	n := grove.Of(`def f($x; g): {a, "b\($x)": [.[1:] | try h catch $y]}; reduce $z as {"c d": [$y]} (0; . + $y) // break $out`)
	bad := grove.Node(api.NodePipe, "", n, api.Node{})
	var all sync.WaitGroup
	for range 8 {
		all.Go(func() {
			for range 100 {
				free(t, n, "h/0", "$y", "$z", "*out")
				check(t, n, []string{"$z", "$y", "h/0"}, "*out")
				if names, err := scope.Free(bad); names != nil || err != api.ErrArg {
					t.Error(names, err)
				}
			}
		})
	}
	all.Wait()
}
