package show_test

import (
	"slices"
	"strings"
	"testing"

	"lorgnette/api"
	"lorgnette/grove"
	"lorgnette/show"
)

// TestGrown holds trees that may be against the model, and asks that each one is read again.
func TestGrown(t *testing.T) {
	t.Parallel()
	m := newMaker(1)
	var kinds [33]int
	for i := range 15000 {
		n := m.tree(1 + i%60)
		right(t, n, modelText(n))
		there(t, n)
		grove.Each(&n, func(n *api.Node) { kinds[n.Kind]++ })
	}
	for kind, count := range kinds {
		if kind > 0 && count < 1000 {
			t.Errorf("kind %d was grown %d times", kind, count)
		}
	}
}

// TestSpoilt holds trees of which some nodes were changed against the model: many of them may not be.
func TestSpoilt(t *testing.T) {
	t.Parallel()
	m := newMaker(2)
	var answers [2]int
	for i := range 30000 {
		n := m.tree(1 + i%40)
		for range 1 + m.Intn(2) {
			m.spoil(&n)
		}
		held(t, n)
		if show.May(n) {
			answers[0]++
			there(t, n)
		} else {
			answers[1]++
		}
	}
	if answers[0] < 3000 || answers[1] < 10000 {
		t.Error("too few of a kind:", answers)
	}
}

// spoil changes one node of a tree: its kind, its Text, or its kids.
func (m maker) spoil(n *api.Node) {
	var all []*api.Node
	grove.Each(n, func(n *api.Node) { all = append(all, n) })
	one, other := all[m.Intn(len(all))], *all[m.Intn(len(all))]
	other = grove.Twin(other)
	at := m.Intn(len(one.Kids) + 1)
	switch kind := m.Intn(8); {
	case kind == 0:
		one.Kind = m.Intn(34)
	case kind == 1:
		one.Text = append(someTexts, other.Text)[m.Intn(len(someTexts)+1)]
	case kind == 2 || kind == 3:
		*one = other
	case kind == 4:
		*one = m.tree(3)
	case kind == 5 || at == len(one.Kids):
		one.Kids = slices.Insert(slices.Clone(one.Kids), at, other)
	case kind == 6:
		one.Kids = slices.Delete(slices.Clone(one.Kids), at, at+1)
	default:
		one.Kids[at] = grove.None()
	}
}

// TestLong writes trees whose texts are as long as a filter's may be, and longer ones.
func TestLong(t *testing.T) {
	t.Parallel()
	for _, bytes := range []int{99997, 99998, 99999} {
		n := grove.Name(strings.Repeat("a", bytes))
		want := `"` + strings.Repeat("a", bytes) + `"`
		right(t, n, want)
		if len(want) <= 100000 {
			there(t, n)
		}
	}
	n := grove.Node(api.NodeArray, "", grove.Node(api.NodeCall, "f", slices.Repeat([]api.Node{grove.Self()}, 33332)...))
	right(t, n, "[f("+strings.Repeat(".; ", 33331)+".)]")
	there(t, n)
	for _, n := range []api.Node{grove.Node(api.NodeCall, strings.Repeat("f", 300000)), grove.Node(api.NodeArray, "", grove.Node(api.NodeCall, "f", slices.Repeat([]api.Node{grove.Of("{a: (.b | 1)}")}, 50000)...)), grove.Name(strings.Repeat("\x00", 100000)), grove.Node(api.NodeObject, "", slices.Repeat([]api.Node{grove.Entry(grove.Name("if"), grove.Num("1"))}, 50000)...)} {
		right(t, n, modelText(n))
	}
}
