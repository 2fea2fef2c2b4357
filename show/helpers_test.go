package show_test

import (
	"math/rand"
	"testing"

	"lorgnette/api"
	"lorgnette/grove"
	"lorgnette/show"
	"lorgnette/syntax"
)

// right asks for the text of a tree that may be.
func right(t *testing.T, n api.Node, want string) {
	t.Helper()
	if s, err := show.Text(n); s != want || err != api.OK {
		t.Errorf("Text(%.150s): %.150s, %d, not %.150s", grove.Show(n), s, err, want)
	}
	if !show.May(n) {
		t.Errorf("May(%.150s): false", grove.Show(n))
	}
}

// may asks for no more than that a tree may be, and has a text.
func may(t *testing.T, n api.Node) {
	t.Helper()
	if s, err := show.Text(n); !show.May(n) || s == "" || err != api.OK {
		t.Errorf("%.150s: May %v, Text %.150s, %d", grove.Show(n), show.May(n), s, err)
	}
}

// wrong asks that a tree may not be; called is how it is told.
func wrong(t *testing.T, n api.Node, called string) {
	t.Helper()
	if s, err := show.Text(n); show.May(n) || s != "" || err != api.ErrArg {
		t.Errorf("%.150s: May %v, Text %.150s, %d", called, show.May(n), s, err)
	}
}

// held asks of a tree, whatever it is, what the model tells.
func held(t *testing.T, n api.Node) {
	t.Helper()
	if modelMay(n) {
		right(t, n, modelText(n))
	} else {
		wrong(t, n, grove.Show(n))
	}
}

// there asks that a tree's text is read as the tree, and has the same text again; and tells the text.
func there(t *testing.T, n api.Node) string {
	t.Helper()
	s, err := show.Text(n)
	if err != api.OK || len(s) > 100000 {
		t.Errorf("Text(%.150s): %d, of %d bytes", grove.Show(n), err, len(s))
		return s
	}
	read, at, err := syntax.Parse(s)
	if again, _ := show.Text(read); !grove.Same(read, n) || at != 0 || err != api.OK || again != s {
		t.Errorf("%.150s is read as %.150s, %d, %d; again %.150s", s, grove.Show(read), at, err, again)
	}
	return s
}

// maker makes trees, the same ones at each run.
type maker struct{ *rand.Rand }

func newMaker(seed int64) maker {
	return maker{rand.New(rand.NewSource(seed))}
}

func (m maker) tree(room int) api.Node {
	return grove.Grow(m.Intn, room)
}
