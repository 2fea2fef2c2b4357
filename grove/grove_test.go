package grove_test

import (
	"math/rand"
	"testing"

	"lorgnette/api"
	"lorgnette/grove"
	"lorgnette/show"
)

const some = `def f($x; g): {a, "b\($x)": [.[1:] | try g catch (-.)]}; reduce .[] as {"c d": [$y]} (0; . + $y) // 1e3`

func TestSame(t *testing.T) {
	n := grove.Of(some)
	if !grove.Same(n, grove.Of(some)) || !grove.Same(api.Node{Kids: []api.Node{}}, api.Node{}) {
		t.Error("not the same:", grove.Show(n))
	}
	for _, other := range []string{".", "def f($x; g): 1; 2", some + " | 1", some + "0"} {
		if grove.Same(n, grove.Of(other)) {
			t.Error("the same:", other)
		}
	}
	count := 0
	grove.Each(&n, func(one *api.Node) {
		count++
		one.Text += "!"
		if grove.Same(n, grove.Of(some)) {
			t.Error("the same, but for", grove.Show(*one))
		}
		one.Text = one.Text[:len(one.Text)-1]
	})
	if count != 38 {
		t.Error(count, "nodes")
	}
}

func TestTwin(t *testing.T) {
	n := grove.Of(some)
	twin, other := grove.Twin(n), grove.Twin(n)
	grove.Spoil(n)
	if want := grove.Of(some); grove.Same(n, want) || !grove.Same(twin, want) {
		t.Error("spoilt:", grove.Show(n), grove.Show(twin))
	}
	grove.Spoil(twin)
	if !grove.Same(other, grove.Of(some)) {
		t.Error("twins share something")
	}
}

func TestShow(t *testing.T) {
	for s, want := range map[string]string{
		".a | 1": "pipe(index(. text(part:a)) num:1)", `"a b\(.)"`: `text(part:"a b" .)`, `""`: "text", `"\""`: `text(part:"\"")`, "def f($a): 1; f": "def:f(param:$a num:1 call:f)",
	} {
		if got := grove.Show(grove.Of(s)); got != want {
			t.Errorf("%s is shown as %s, not %s", s, got, want)
		}
	}
	for kind, want := range map[int]string{0: "?", -1: "?-1", 33: "?33", api.NodeNone: "none"} {
		if got := grove.Show(grove.Node(kind, "a", grove.Self())); got != want+":a(.)" {
			t.Errorf("kind %d is shown as %s", kind, got)
		}
	}
}

func TestDepth(t *testing.T) {
	if got := grove.Depth(grove.Of("[.a, 1] | [[[2]]]")); got != 6 {
		t.Error("depth:", got)
	}
	if got := grove.Depth(grove.Within(grove.Self(), grove.Neg, 7)); got != 8 {
		t.Error("depth within:", got)
	}
}

// TestGrow asks that all that is grown may be, and is about as great as there is room for.
func TestGrow(t *testing.T) {
	pick := rand.New(rand.NewSource(1)).Intn
	nodes := 0
	for i := range 5000 {
		n := grove.Grow(pick, 1+i%50)
		p := grove.GrowPattern(pick, 1+i%50)
		if !show.May(n) || !show.May(grove.Node(api.NodeBind, "", n, p, n)) {
			t.Error("grown:", grove.Show(n), grove.Show(p))
		}
		grove.Each(&n, func(*api.Node) { nodes++ })
	}
	if nodes < 60000 || nodes > 300000 {
		t.Error(nodes, "nodes")
	}
}

// TestWrong asks that none of the wrong ones may be.
func TestWrong(t *testing.T) {
	for i, n := range grove.Wrong() {
		if show.May(n) {
			t.Errorf("wrong %d may be: %s", i, grove.Show(n))
		}
	}
}
