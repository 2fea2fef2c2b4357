package syntax_test

import (
	"fmt"
	"math/rand"
	"regexp"
	"slices"
	"strings"
	"testing"

	"lorgnette/api"
	"lorgnette/syntax"
)

// kindNames are the kinds of nodes as messages tell them.
var kindNames = [...]string{"?", ".", "..", "num", "text", "part", "format", "arr", "obj", "entry", "index", "slice", "each", "try", "neg", "pipe", "comma", "op", "if", "reduce", "foreach", "label", "break", "bind", "var", "call", "def", "param", "pvar", "parr", "pobj", "pkey", "none"}

// bare is a text that is shown without quotes.
var bare = regexp.MustCompile(`^[^\s"():]+$`)

// show is a tree as one text: no two trees have the same.
func show(n api.Node) string {
	if n.Kind < 0 || n.Kind >= len(kindNames) {
		return fmt.Sprint(n)
	}
	s := kindNames[n.Kind]
	switch {
	case bare.MatchString(n.Text):
		s += ":" + n.Text
	case n.Text != "":
		s += fmt.Sprintf(":%q", n.Text)
	}
	if len(n.Kids) == 0 {
		return s
	}
	kids := make([]string, len(n.Kids))
	for i, kid := range n.Kids {
		kids[i] = show(kid)
	}
	return s + "(" + strings.Join(kids, " ") + ")"
}

// answer is what Parse tells.
type answer struct {
	tree string
	at   int
	err  api.Errno
}

func (a answer) String() string {
	return fmt.Sprintf("%.600s, %d, %d", a.tree, a.at, a.err)
}

// fault is an answer without a tree.
func fault(at int, err api.Errno) answer {
	return answer{show(api.Node{}), at, err}
}

// given asks that a text is read as it should be.
func given(t *testing.T, s string, want answer) {
	t.Helper()
	n, at, err := syntax.Parse(s)
	if got := (answer{show(n), at, err}); got != want {
		t.Errorf("Parse(%.300q): %s, not %s", s, got, want)
	}
}

// right asks for the tree of a text in which nothing is wrong.
func right(t *testing.T, s, tree string) {
	t.Helper()
	given(t, s, answer{tree, 0, api.OK})
}

// wrong asks for what is wrong with a text.
func wrong(t *testing.T, s string, at int, err api.Errno) {
	t.Helper()
	given(t, s, fault(at, err))
}

// marked asks for what is wrong at the place of a text that a ~ marks; at its end, it ends too early.
func marked(t *testing.T, s string) {
	t.Helper()
	at := strings.IndexByte(s, '~')
	s = s[:at] + s[at+1:]
	err := api.ErrForm
	if at == len(s) {
		err = api.ErrShort
	}
	wrong(t, s, at, err)
}

// same asks that two texts have the same tree.
func same(t *testing.T, s, as string) {
	t.Helper()
	n, _, err := syntax.Parse(as)
	if err != api.OK {
		t.Errorf("Parse(%q): %d", as, err)
	}
	right(t, s, show(n))
}

// depthOf is how deep a tree is, by the document's words alone.
func depthOf(n api.Node) int {
	deepest := 0
	for _, kid := range n.Kids {
		deepest = max(deepest, depthOf(kid))
	}
	return 1 + deepest
}

// maker makes texts, the same ones at each run.
type maker struct{ *rand.Rand }

func newMaker(seed int64) maker {
	return maker{rand.New(rand.NewSource(seed))}
}

func (m maker) one(l []string) string {
	return l[m.Intn(len(l))]
}

// spelt is how tokens are written, each two of them with what between makes, where blanks may stand.
func spelt(tokens []api.Token, between func() string) string {
	heads := [...]string{"", "", "", ".", "$", "", "", `"`, "", `\(`, ")", `"`}
	var s strings.Builder
	for _, tok := range tokens {
		said := tok.Text
		if tok.Kind == api.TokText {
			said = strings.NewReplacer(`\`, `\\`, `"`, `\"`).Replace(said)
		}
		s.WriteString(heads[tok.Kind] + said)
		if !slices.Contains([]int{api.TokOpen, api.TokText, api.TokOut}, tok.Kind) {
			s.WriteString(between())
		}
	}
	return s.String()
}

func blank() string {
	return " "
}

// spoilt is a row of tokens of which some were taken away, doubled, put in, or changed for others.
func (m maker) spoilt(l []api.Token, others []api.Token) []api.Token {
	l = slices.Clone(l)
	for range 1 + m.Intn(2) {
		at := m.Intn(len(l) + 1)
		other := others[m.Intn(len(others))]
		switch kind := m.Intn(5); {
		case kind == 0 || at == len(l):
			l = slices.Insert(l, at, other)
		case kind == 1:
			l = slices.Delete(l, at, at+1)
		case kind == 2:
			l = slices.Insert(l, at, l[at])
		case kind == 3:
			l = l[:at]
		default:
			l[at] = other
		}
	}
	return l
}
