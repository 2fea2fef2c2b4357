package show_test

import (
	"sync"
	"testing"

	"lorgnette/api"
	"lorgnette/grove"
	"lorgnette/show"
)

// TestArgumentsStay: what is handed in is as it was.
func TestArgumentsStay(t *testing.T) {
	m := newMaker(4)
	for i := range 3000 {
		n := m.tree(1 + i%40)
		if i%3 == 0 {
			m.spoil(&n)
		}
		twin := grove.Twin(n)
		show.May(n)
		s, _ := show.Text(n)
		if !grove.Same(n, twin) {
			t.Errorf("%.300s became %.300s", grove.Show(twin), grove.Show(n))
		}
		grove.Spoil(n)
		if again, _ := show.Text(twin); again != s {
			t.Errorf("%.300s became %.300s", s, again)
		}
	}
}

// TestOneText: trees that may be have one text only if they are the same.
func TestOneText(t *testing.T) {
	m := newMaker(5)
	trees := map[string]api.Node{}
	for i := range 20000 {
		n := m.tree(1 + i%8)
		s, _ := show.Text(n)
		if other, ok := trees[s]; ok && !grove.Same(n, other) {
			t.Errorf("%.300s and %.300s have the text %.300s", grove.Show(n), grove.Show(other), s)
		}
		trees[s] = n
	}
}

// TestFromManySides calls from many sides at the same time.
func TestFromManySides(t *testing.T) {
	n := grove.Of(`def f($x): {a, "b\($x)": [.[1:] | try error catch .]}; reduce .[] as {"c d": [$y]} (0; . + $y) // -1`)
	want := modelText(n)
	bad := grove.Neg(grove.Node(api.NodeOp, ",", n, n))
	var all sync.WaitGroup
	for range 8 {
		all.Go(func() {
			for range 100 {
				right(t, n, want)
				there(t, n)
				wrong(t, bad, "a sign of another kind")
			}
		})
	}
	all.Wait()
}
