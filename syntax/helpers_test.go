package syntax_test

import (
	"fmt"
	"math/rand"
	"slices"
	"strings"
	"testing"

	"lorgnette/api"
	"lorgnette/grove"
	"lorgnette/syntax"
)

// answer is what Parse tells.
type answer struct {
	tree string
	at   int
	err  api.Errno
}

func (a answer) String() string {
	return fmt.Sprintf("%.600s, %d, %d", a.tree, a.at, a.err)
}

// fault is an answer without a tree.
func fault(at int, err api.Errno) answer {
	return answer{grove.Show(api.Node{}), at, err}
}

// given asks that a text is read as it should be.
func given(t *testing.T, s string, want answer) {
	t.Helper()
	n, at, err := syntax.Parse(s)
	if got := (answer{grove.Show(n), at, err}); got != want {
		t.Errorf("Parse(%.300q): %s, not %s", s, got, want)
	}
}

// right asks for the tree of a text in which nothing is wrong.
func right(t *testing.T, s, tree string) {
	t.Helper()
	given(t, s, answer{tree, 0, api.OK})
}

// wrong asks for what is wrong with a text.
func wrong(t *testing.T, s string, at int, err api.Errno) {
	t.Helper()
	given(t, s, fault(at, err))
}

// marked asks for what is wrong at the place of a text that a ~ marks; at its end, it ends too early.
func marked(t *testing.T, s string) {
	t.Helper()
	at := strings.IndexByte(s, '~')
	s = s[:at] + s[at+1:]
	err := api.ErrForm
	if at == len(s) {
		err = api.ErrShort
	}
	wrong(t, s, at, err)
}

// same asks that two texts have the same tree.
func same(t *testing.T, s, as string) {
	t.Helper()
	n, _, err := syntax.Parse(as)
	if err != api.OK {
		t.Errorf("Parse(%q): %d", as, err)
	}
	right(t, s, grove.Show(n))
}

// maker makes texts, the same ones at each run.
type maker struct{ *rand.Rand }

func newMaker(seed int64) maker {
	return maker{rand.New(rand.NewSource(seed))}
}

func (m maker) one(l []string) string {
	return l[m.Intn(len(l))]
}

// spelt is how tokens are written, each two of them with what between makes, where blanks may stand.
func spelt(tokens []api.Token, between func() string) string {
	heads := [...]string{"", "", "", ".", "$", "", "", `"`, "", `\(`, ")", `"`}
	var s strings.Builder
	for _, tok := range tokens {
		said := tok.Text
		if tok.Kind == api.TokText {
			said = strings.NewReplacer(`\`, `\\`, `"`, `\"`).Replace(said)
		}
		s.WriteString(heads[tok.Kind] + said)
		if !slices.Contains([]int{api.TokOpen, api.TokText, api.TokOut}, tok.Kind) {
			s.WriteString(between())
		}
	}
	return s.String()
}

func blank() string {
	return " "
}

// spoilt is a row of tokens of which some were taken away, doubled, put in, or changed for others.
func (m maker) spoilt(l []api.Token, others []api.Token) []api.Token {
	l = slices.Clone(l)
	for range 1 + m.Intn(2) {
		at := m.Intn(len(l) + 1)
		other := others[m.Intn(len(others))]
		switch kind := m.Intn(5); {
		case kind == 0 || at == len(l):
			l = slices.Insert(l, at, other)
		case kind == 1:
			l = slices.Delete(l, at, at+1)
		case kind == 2:
			l = slices.Insert(l, at, l[at])
		case kind == 3:
			l = l[:at]
		default:
			l[at] = other
		}
	}
	return l
}
