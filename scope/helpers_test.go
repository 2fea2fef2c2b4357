package scope_test

import (
	"math/rand"
	"slices"
	"strings"
	"testing"

	"lorgnette/api"
	"lorgnette/grove"
	"lorgnette/scope"
)

// free asks for the names that nobody binds in a tree that may be, and that Check tells the first one of them.
func free(t *testing.T, n api.Node, want ...string) {
	t.Helper()
	got, err := scope.Free(n)
	if !slices.Equal(got, want) || err != api.OK {
		t.Errorf("Free(%.300s): %.300q, %d, not %.300q", grove.Show(n), got, err, want)
	}
	first := ""
	if len(want) > 0 {
		first = want[0]
	}
	check(t, n, nil, first)
}

// check asks for the first name that isn't known: nothing, if all are.
func check(t *testing.T, n api.Node, known []string, want string) {
	t.Helper()
	errWant := api.ErrName
	if want == "" {
		errWant = api.OK
	}
	if got, err := scope.Check(n, known); got != want || err != errWant {
		t.Errorf("Check(%.300s, %.300q): %.100s, %d, not %.100s, %d", grove.Show(n), known, got, err, want, errWant)
	}
}

// named are names with blanks between them, as a list.
func named(s string) []string {
	return strings.Fields(s)
}

// freeIn are the names that Free tells of a tree that may be.
func freeIn(t *testing.T, n api.Node) []string {
	t.Helper()
	names, err := scope.Free(n)
	if err != api.OK {
		t.Errorf("Free(%.300s): %d", grove.Show(n), err)
	}
	return names
}

// without is a list without some names.
func without(l []string, names ...string) []string {
	return slices.DeleteFunc(slices.Clone(l), func(s string) bool { return slices.Contains(names, s) })
}

// union are the names of some lists, each once, where it stands first.
func union(lists ...[]string) []string {
	var l []string
	for _, name := range slices.Concat(lists...) {
		if !slices.Contains(l, name) {
			l = append(l, name)
		}
	}
	return l
}

// maker makes trees, the same ones at each run.
type maker struct{ *rand.Rand }

func newMaker(seed int64) maker {
	return maker{rand.New(rand.NewSource(seed))}
}

// tree is a tree that may be, in which few names stand, so that many of them are bound.
func (m maker) tree(room int) api.Node {
	n := grove.Grow(m.Intn, room)
	names := []string{"x", "y", "f"}[:1+m.Intn(3)]
	grove.Each(&n, func(n *api.Node) {
		name := names[m.Intn(len(names))]
		switch n.Kind {
		case api.NodeVar, api.NodePatVar, api.NodeCall, api.NodeDef, api.NodeLabel, api.NodeBreak:
			n.Text = name
		case api.NodeParam:
			n.Text = "$"[:strings.Count(n.Text, "$")] + name
		}
	})
	return n
}

// some are some of a list's names, in another order, and some other texts between them.
func (m maker) some(l []string) []string {
	l = slices.Clone(l)
	m.Shuffle(len(l), func(i, j int) { l[i], l[j] = l[j], l[i] })
	l = l[:m.Intn(len(l)+1)]
	for _, other := range []string{"$a", "f/0", "f/1", "*x", "", "a", "$", "/0", "*", "a/1/0", "\xff"} {
		if m.Intn(3) == 0 {
			l = slices.Insert(l, m.Intn(len(l)+1), other)
		}
	}
	return l
}
