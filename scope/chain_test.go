package scope_test

import (
	"slices"
	"strings"
	"testing"

	"lorgnette/api"
	"lorgnette/grove"
	"lorgnette/scope"
	"lorgnette/show"
)

// holders are filters in which another one stands, where the name HERE does, and the names that are bound there: all places in all kinds.
var holders = []struct{ text, binds string }{
	{". as $x | HERE", "$x"}, {". as $f | HERE", "$f"}, {". as [$y, {x: $f}] | HERE", "$y $f"}, {". as {$x, f: [$f]} | HERE", "$x $f"}, {"HERE as $x | .", ""}, {"HERE as [$x, $f] | .", ""},
	{"reduce HERE as $x (.; .)", ""}, {"reduce . as $x (HERE; .)", ""}, {"reduce . as $x (.; HERE)", "$x"}, {"reduce . as [$f] (.; HERE)", "$f"},
	{"foreach HERE as $x (.; .; .)", ""}, {"foreach . as $x (HERE; .; .)", ""}, {"foreach . as $x (.; HERE; .)", "$x"}, {"foreach . as $x (.; .; HERE)", "$x"}, {"foreach . as {x: $f} (.; HERE)", "$f"}, {"foreach . as $x (HERE; .)", ""},
	{"label $x | HERE", "*x"}, {"label $f | HERE", "*f"},
	{"def f: HERE; .", "f/0"}, {"def f: .; HERE", "f/0"}, {"def x: HERE; .", "x/0"}, {"def x: .; HERE", "x/0"},
	{"def f(x): HERE; .", "f/1 x/0"}, {"def f(x): .; HERE", "f/1"}, {"def f($x): HERE; .", "f/1 x/0 $x"}, {"def f($x): .; HERE", "f/1"}, {"def x(f): HERE; .", "x/1 f/0"}, {"def x($f): .; HERE", "x/1"}, {"def f($x; f): HERE; .", "f/2 f/0 x/0 $x"}, {"def f(f; $x): .; HERE", "f/2"}, {"def g($f; $x): HERE; .", "g/2 f/0 $f x/0 $x"}, {"def g(f; x): .; HERE", "g/2"},
	{"[HERE]", ""}, {"{x: HERE}", ""}, {"{(HERE): 1}", ""}, {`"x\(HERE)f"`, ""}, {"HERE.x", ""}, {".[HERE]", ""}, {".[HERE:]", ""}, {".[:HERE]", ""}, {"HERE[1:]", ""}, {"HERE[]", ""}, {"HERE?", ""}, {"try HERE catch .", ""}, {"try . catch HERE", ""}, {"-HERE", ""}, {"HERE | .", ""}, {". | HERE", ""}, {"HERE, .", ""}, {"., HERE", ""}, {"HERE + 1", ""}, {"1 // HERE", ""}, {"if HERE then . end", ""}, {"if . then HERE else . end", ""}, {"if . then . else HERE end", ""},
}

// leaves use one name each, of all kinds.
var leaves = []struct{ text, name string }{
	{"$x", "$x"}, {"$f", "$f"}, {"$y", "$y"}, {"x", "x/0"}, {"f", "f/0"}, {"f(.)", "f/1"}, {"x(.)", "x/1"}, {"f(.; .)", "f/2"}, {"g(.; .)", "g/2"}, {"break $x", "*x"}, {"break $f", "*f"},
}

// held is a holder with a filter in it.
func held(holder, n api.Node) api.Node {
	if holder.Kind == api.NodeCall && holder.Text == "HERE" {
		return n
	}
	kids := make([]api.Node, len(holder.Kids))
	for i, kid := range holder.Kids {
		kids[i] = held(kid, n)
	}
	holder.Kids = kids
	return holder
}

// chained asks of a tree in which one name is used, and which names are bound around it, for it, or for none.
func chained(t *testing.T, n api.Node, name string, bound []string) {
	t.Helper()
	got, err := scope.Free(n)
	if isFree := !slices.Contains(bound, name); err != api.OK || isFree != slices.Equal(got, []string{name}) || !isFree && len(got) > 0 {
		t.Errorf("Free(%.300s): %q, %d, where %q are bound", grove.Show(n), got, err, bound)
	}
}

// TestFreeChains uses each kind of name within two of all holders, and within three of those that bind something.
func TestFreeChains(t *testing.T) {
	t.Parallel()
	trees := make([]api.Node, len(holders))
	for i, h := range holders {
		trees[i] = grove.Of(h.text)
	}
	for _, leaf := range leaves {
		n := grove.Of(leaf.text)
		free(t, n, leaf.name)
		for i, inner := range holders {
			one := held(trees[i], n)
			chained(t, one, leaf.name, named(inner.binds))
			for j, middle := range holders {
				two := held(trees[j], one)
				bound := named(inner.binds + " " + middle.binds)
				chained(t, two, leaf.name, bound)
				if inner.binds == "" || middle.binds == "" {
					continue
				}
				for k, outer := range holders {
					chained(t, held(trees[k], two), leaf.name, append(bound, named(outer.binds)...))
				}
			}
		}
	}
}

// TestFreeDeep uses names within as many nodes as a tree may have around them.
func TestFreeDeep(t *testing.T) {
	t.Parallel()
	for _, h := range holders {
		holder := grove.Of(h.text)
		for _, leaf := range leaves {
			n := held(holder, grove.Of(leaf.text))
			for more := held(holder, n); show.May(more); more = held(holder, n) {
				n = more
			}
			chained(t, n, leaf.name, named(h.binds))
			deepest := held(grove.Of(". as $x | label $x | def f($f): .; HERE"), grove.Within(grove.Of(leaf.text), grove.Neg, 197-grove.Depth(grove.Of(leaf.text))))
			if grove.Depth(deepest) != 200 {
				t.Error("depth:", grove.Depth(deepest))
			}
			chained(t, deepest, leaf.name, named("$x *x f/1"))
			if names, err := scope.Free(grove.Neg(deepest)); len(names) > 0 || err != api.ErrArg {
				t.Errorf("of 201 levels: %q, %d", names, err)
			}
		}
	}
}

// TestFreeBetween binds others between where a name is bound and where it is used, as many as there may be.
func TestFreeBetween(t *testing.T) {
	t.Parallel()
	other := grove.Of("def z($w): HERE; .")
	for _, h := range holders {
		holder := grove.Of(h.text)
		for _, leaf := range leaves {
			n := grove.Of(leaf.text)
			for more := held(other, n); show.May(held(holder, more)); more = held(other, n) {
				n = more
			}
			chained(t, held(holder, n), leaf.name, named(h.binds))
			chained(t, n, leaf.name, nil)
		}
	}
}

// TestFreeAnew binds names anew at each of many levels.
func TestFreeAnew(t *testing.T) {
	t.Parallel()
	s := "$z, $y, $x"
	for range 45 {
		s = "$x | . as $x | $y | . as [$y] | " + s
	}
	free(t, grove.Of(strings.TrimPrefix(s, "$x | ")), "$y", "$z")
	free(t, grove.Of(s), "$x", "$y", "$z")
}
