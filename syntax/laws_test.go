package syntax_test

import (
	"slices"
	"strings"
	"sync"
	"testing"

	"lorgnette/api"
	"lorgnette/grove"
	"lorgnette/lex"
	"lorgnette/syntax"
)

// TestBlanksTurnNothing lays blanks and notes between tokens: the tree is the same; or the same is wrong, at the same token.
func TestBlanksTurnNothing(t *testing.T) {
	t.Parallel()
	m := newMaker(4)
	blanks := []string{" ", "\t", "\n", "\r", "\r\n", "  ", "#\n", "# a \" \\( $ !\n", " # ä\n\n# \" )\n\t"}
	between := func() string { return m.one(blanks) }
	for i := range 10000 {
		tokens := m.tokens(1 + i%40)
		s := spelt(tokens, blank)
		n, at, err := syntax.Parse(s)
		for range 3 {
			other := between() + spelt(tokens, between)
			n2, at2, err2 := syntax.Parse(other)
			if grove.Show(n2) != grove.Show(n) || err2 != err || tokenAt(other, at2) != tokenAt(s, at) && err != api.OK {
				t.Errorf("Parse(%q): %.300s, %d, %d; %q: %.300s, %d, %d", s, grove.Show(n), at, err, other, grove.Show(n2), at2, err2)
			}
		}
	}
}

// tokens are what the grammar makes, or that with some of it changed: right ones, as they stand in a text, whatever they are together.
func (m maker) tokens(room int) []api.Token {
	l := m.sentence("pipe", room)
	if m.Intn(3) == 0 {
		l = m.spoilt(l, l)
	}
	told, _, _ := lex.Tokens(spelt(l, blank))
	return told
}

// tokenAt is which of a text's tokens stands at a place: -1, if none does.
func tokenAt(s string, at int) int {
	tokens, _, _ := lex.Tokens(s)
	return slices.IndexFunc(tokens, func(tok api.Token) bool { return tok.At == at })
}

// TestParens lays ( ) around pipes: the tree is the same.
func TestParens(t *testing.T) {
	t.Parallel()
	m := newMaker(5)
	for i := range 5000 {
		s := spelt(m.sentence("pipe", 1+i%40), blank)
		all, wrong := branchOf(s)
		if wrong.err != api.OK {
			continue
		}
		same(t, "("+s+")", s)
		same(t, spelt(all.wrapped(func() bool { return m.Intn(3) == 0 }), blank), s)
		same(t, spelt(all.wrapped(func() bool { return true }), blank), s)
	}
}

// wrapped are a branch's tokens, with ( ) around those pipes that are asked for.
func (b branch) wrapped(asked func() bool) []api.Token {
	if b.rule == "" {
		return []api.Token{b.token}
	}
	var l []api.Token
	for _, kid := range b.kids {
		l = append(l, kid.wrapped(asked)...)
	}
	if b.rule == "pipe" && asked() {
		l = slices.Concat([]api.Token{{Kind: api.TokOp, Text: "("}}, l, []api.Token{{Kind: api.TokOp, Text: ")"}})
	}
	return l
}

// TestAllThatIsTold asks of each tree that is told: it is at most 200 deep, and of api's kinds, with kids as these have them; and of each fault: it stands within the text, and there is no tree.
func TestAllThatIsTold(t *testing.T) {
	t.Parallel()
	m := newMaker(6)
	for i := range 10000 {
		s := spelt(m.tokens(1+i%60), blank)
		n, at, err := syntax.Parse(s)
		switch {
		case err == api.OK:
			if depth := syntax.Depth(n); depth > 200 || depth != grove.Depth(n) || at != 0 || !ofKinds(n, filters) {
				t.Errorf("Parse(%q): %.300s, %d", s, grove.Show(n), at)
			}
		case grove.Show(n) != "?" || at < 0 || at > len(s) || at == len(s) && err != api.ErrShort || err == api.ErrForm && tokenAt(s, at) < 0:
			t.Errorf("Parse(%q): %.300s, %d, %d", s, grove.Show(n), at, err)
		}
	}
}

// What a node may be.
const (
	filters  = iota // or a filter's part that says nothing
	parts           // a filter, or what is said in a text
	entries         // of an object
	params          // a definition's, or a filter
	patterns        // or a filter, as it stands beside one
	keyed           // a key of a pattern
)

// ofKinds tells whether a node is of the kinds that may stand where it does, and has a text, and kids, as these have.
func ofKinds(n api.Node, allowed int) bool {
	forms := map[int]struct {
		allowed     int
		said        bool
		least, most int
		kids        int
	}{
		api.NodeSelf: {filters, false, 0, 0, 0}, api.NodeAll: {filters, false, 0, 0, 0}, api.NodeNumber: {filters, true, 0, 0, 0}, api.NodeText: {filters, n.Text != "", 0, 99, parts}, api.NodePart: {parts, true, 0, 0, 0}, api.NodeFormat: {filters, true, 0, 0, 0}, api.NodeArray: {filters, false, 0, 1, filters}, api.NodeObject: {filters, false, 0, 99, entries}, api.NodeEntry: {entries, false, 2, 2, filters}, api.NodeIndex: {filters, false, 2, 2, filters}, api.NodeSlice: {filters, false, 3, 3, filters}, api.NodeEach: {filters, false, 1, 1, filters}, api.NodeTry: {filters, false, 1, 2, filters}, api.NodeNeg: {filters, false, 1, 1, filters}, api.NodePipe: {filters, false, 2, 2, filters}, api.NodeComma: {filters, false, 2, 2, filters}, api.NodeOp: {filters, true, 2, 2, filters}, api.NodeIf: {filters, false, 3, 3, filters}, api.NodeReduce: {filters, false, 4, 4, patterns}, api.NodeForeach: {filters, false, 5, 5, patterns}, api.NodeLabel: {filters, true, 1, 1, filters}, api.NodeBreak: {filters, true, 0, 0, 0}, api.NodeBind: {filters, false, 3, 3, patterns}, api.NodeVar: {filters, true, 0, 0, 0}, api.NodeCall: {filters, true, 0, 99, filters}, api.NodeDef: {filters, true, 2, 99, params}, api.NodeParam: {params, true, 0, 0, 0}, api.NodePatVar: {patterns, true, 0, 0, 0}, api.NodePatArr: {patterns, false, 1, 99, patterns}, api.NodePatObj: {patterns, false, 1, 99, keyed}, api.NodePatKey: {keyed, n.Text != "", 1, 1, patterns}, api.NodeNone: {filters, false, 0, 0, 0},
	}
	form, known := forms[n.Kind]
	fits := form.allowed == allowed || form.allowed == filters && (allowed == parts || allowed == params || allowed == patterns)
	if !known || !fits || form.said != (n.Text != "") || len(n.Kids) < form.least || len(n.Kids) > form.most {
		return false
	}
	return !slices.ContainsFunc(n.Kids, func(kid api.Node) bool { return !ofKinds(kid, form.kids) })
}

// TestNothingIsShared: no two lists of what is told are one, of one answer or of two.
func TestNothingIsShared(t *testing.T) {
	m := newMaker(7)
	for i := range 2000 {
		s := spelt(m.sentence("pipe", 1+i%40), blank)
		n, _, _ := syntax.Parse(s)
		again, _, _ := syntax.Parse(s)
		if !apart(n, again) {
			t.Errorf("Parse(%q) shares lists", s)
		}
	}
	for times := range 8 {
		n, _, _ := syntax.Parse("[" + keys(times) + `, {a, "b", $x}]`)
		if !apart(n) {
			t.Errorf("%d keys share lists", times)
		}
	}
}

// apart tells whether no two lists of trees share anything, also behind their ends.
func apart(trees ...api.Node) bool {
	seen := map[*api.Node]bool{}
	var goThrough func(n api.Node) bool
	goThrough = func(n api.Node) bool {
		kids := n.Kids[:cap(n.Kids)]
		for i := range kids {
			if seen[&kids[i]] || !goThrough(kids[i]) {
				return false
			}
			seen[&kids[i]] = true
		}
		return true
	}
	return !slices.ContainsFunc(trees, func(n api.Node) bool { return !goThrough(n) })
}

// TestFromManySides calls from many sides at the same time.
func TestFromManySides(t *testing.T) {
	s := `def f($x): {a, "b\($x)": [.[1:] | try error catch .]}; reduce .[] as [$y] (0; . + $y) // -1`
	want := modelOf(s)
	var all sync.WaitGroup
	for range 8 {
		all.Go(func() {
			for range 100 {
				given(t, s, want)
				wrong(t, s+" then", len(s)+1, api.ErrForm)
				wrong(t, strings.Repeat("-", 200)+"1", 0, api.ErrDepth)
			}
		})
	}
	all.Wait()
}
