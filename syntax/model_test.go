package syntax_test

import (
	"lorgnette/api"
	"lorgnette/dec"
	"lorgnette/grove"
	"lorgnette/lex"
)

// branch is what a rule of the grammar was found to stand for, branches and tokens from the left; or, of no rule, a token.
type branch struct {
	rule  string
	token api.Token
	kids  []branch
}

// model goes through tokens by the grammar: whatever goes on with the next token is taken.
type model struct {
	left  []api.Token
	end   int
	pipes int
}

// modelOf is what Parse should tell.
func modelOf(s string) answer {
	all, wrong := branchOf(s)
	if wrong.err != api.OK {
		return wrong
	}
	n := all.tree()
	if grove.Depth(n) > 200 {
		return fault(0, api.ErrDepth)
	}
	return answer{grove.Show(n), 0, api.OK}
}

// branchOf is what the grammar finds a text to stand for, or what is wrong with it.
func branchOf(s string) (all branch, wrong answer) {
	tokens, at, err := lex.Tokens(s)
	if err != api.OK {
		return branch{}, fault(at, err)
	}
	defer func() {
		switch why := recover().(type) {
		case nil:
		case answer:
			wrong = why
		default:
			panic(why)
		}
	}()
	m := model{left: tokens, end: len(s)}
	all = m.branch("pipe")
	if len(m.left) > 0 {
		m.fail(api.ErrForm)
	}
	return all, answer{}
}

// fail ends a model's way at the next token.
func (m *model) fail(err api.Errno) {
	if len(m.left) > 0 {
		panic(fault(m.left[0].At, err))
	}
	if err == api.ErrForm {
		err = api.ErrShort
	}
	panic(fault(m.end, err))
}

func (m *model) branch(rule string) branch {
	if rule == "pipe" {
		if m.pipes == 600 {
			m.fail(api.ErrDepth)
		}
		m.pipes++
		defer func() { m.pipes-- }()
	}
	return branch{rule: rule, kids: m.parts(rules[rule])}
}

// parts are what a part of the grammar stands for.
func (m *model) parts(e *expr) []branch {
	var l []branch
	switch {
	case e.kind == 'a' && rules[e.name] != nil:
		return []branch{m.branch(e.name)}
	case e.kind == 'a':
		return []branch{{token: m.take(e.name)}}
	case e.kind == '|':
		for _, kid := range e.kids {
			if kid.begins(m.left) {
				return m.parts(kid)
			}
		}
		for _, kid := range e.kids {
			if kid.mayBeNothing() {
				return nil
			}
		}
		m.fail(api.ErrForm)
	case e.kind == '[' && e.kids[0].begins(m.left):
		return m.parts(e.kids[0])
	case e.kind == '[':
		return nil
	case e.kind == '{':
		for e.kids[0].begins(m.left) {
			l = append(l, m.parts(e.kids[0])...)
		}
		return l
	}
	for _, kid := range e.kids {
		l = append(l, m.parts(kid)...)
	}
	return l
}

func (m *model) take(called string) api.Token {
	if !fits(called, m.left) {
		m.fail(api.ErrForm)
	}
	if called == "number" {
		if _, err := dec.Parse(m.left[0].Text); err != api.OK {
			m.fail(err)
		}
	}
	tok := m.left[0]
	m.left = m.left[1:]
	return tok
}

// is tells whether a branch is a sign or a word.
func (b branch) is(sign string) bool {
	return b.rule == "" && b.token.Text == sign && (b.token.Kind == api.TokOp || b.token.Kind == api.TokName)
}

// trees are those of all branches that are of a rule.
func trees(l []branch, rules ...string) []api.Node {
	var all []api.Node
	for _, b := range l {
		for _, rule := range rules {
			if b.rule == rule {
				all = append(all, b.tree())
			}
		}
	}
	return all
}

// tree is the document's tree of what a rule stands for.
func (b branch) tree() api.Node {
	first := b.kids[0]
	switch b.rule {
	case "pipe":
		return pipeTree(b.kids)
	case "param":
		if first.token.Kind == api.TokVar {
			return grove.Node(api.NodeParam, "$"+first.token.Text)
		}
		return grove.Node(api.NodeParam, first.token.Text)
	case "comma":
		return fromLeft(b.kids, func(sign string, a, c api.Node) api.Node { return grove.Node(api.NodeComma, "", a, c) })
	case "alt", "upd", "or", "and", "cmp", "sum", "prod": // the right side of alt is an alt
		return fromLeft(b.kids, func(sign string, a, c api.Node) api.Node { return grove.Node(api.NodeOp, sign, a, c) })
	case "neg":
		if first.is("-") {
			return grove.Node(api.NodeNeg, "", b.kids[1].tree())
		}
		return first.tree()
	case "bind":
		if len(b.kids) > 1 {
			return grove.Node(api.NodeBind, "", first.tree(), b.kids[2].tree(), b.kids[4].tree())
		}
		return first.tree()
	case "post":
		n := first.tree()
		for _, suffix := range b.kids[1:] {
			n = suffixed(n, suffix.kids)
		}
		return n
	case "term":
		return termTree(b.kids)
	case "entry":
		return entryTree(b.kids)
	case "pattern":
		switch {
		case first.is("["):
			return grove.Node(api.NodePatArr, "", trees(b.kids, "pattern")...)
		case first.is("{"):
			return grove.Node(api.NodePatObj, "", trees(b.kids, "patkey")...)
		}
		return grove.Node(api.NodePatVar, first.token.Text)
	case "patkey":
		return patKeyTree(b.kids)
	case "text":
		return textTree("", b.kids)
	}
	panic(b.rule)
}

func fromLeft(l []branch, join func(sign string, a, c api.Node) api.Node) api.Node {
	n := l[0].tree()
	for i := 1; i < len(l); i += 2 {
		n = join(l[i].token.Text, n, l[i+1].tree())
	}
	return n
}

func pipeTree(l []branch) api.Node {
	switch {
	case l[0].is("def"):
		return grove.Node(api.NodeDef, l[1].token.Text, append(trees(l, "param"), trees(l, "pipe")...)...)
	case l[0].is("label"):
		return grove.Node(api.NodeLabel, l[1].token.Text, l[3].tree())
	case len(l) > 1:
		return grove.Node(api.NodePipe, "", l[0].tree(), l[2].tree())
	}
	return l[0].tree()
}

func suffixed(n api.Node, l []branch) api.Node {
	switch {
	case l[0].token.Kind == api.TokField:
		return grove.Node(api.NodeIndex, "", n, grove.Name(l[0].token.Text))
	case l[0].is("?"):
		return grove.Node(api.NodeTry, "", n)
	case l[len(l)-1].rule == "text":
		return grove.Node(api.NodeIndex, "", n, l[len(l)-1].tree())
	}
	inner := l[len(l)-2].kids
	none := grove.Node(api.NodeNone, "")
	switch {
	case len(inner) == 0:
		return grove.Node(api.NodeEach, "", n)
	case len(inner) == 1:
		return grove.Node(api.NodeIndex, "", n, inner[0].tree())
	case inner[0].rule == "colon":
		return grove.Node(api.NodeSlice, "", n, none, inner[1].tree())
	case len(inner) == 2:
		return grove.Node(api.NodeSlice, "", n, inner[0].tree(), none)
	}
	return grove.Node(api.NodeSlice, "", n, inner[0].tree(), inner[2].tree())
}

func termTree(l []branch) api.Node {
	self := grove.Node(api.NodeSelf, "")
	tok, last := l[0].token, l[len(l)-1]
	switch {
	case l[0].rule == "text":
		return l[0].tree()
	case tok.Kind == api.TokFormat && len(l) > 1:
		return textTree(tok.Text, l[1].kids)
	case l[0].is(".") && len(l) > 1:
		return grove.Node(api.NodeIndex, "", self, last.tree())
	case l[0].is("("):
		return l[1].tree()
	case tok.Kind == api.TokField:
		return grove.Node(api.NodeIndex, "", self, grove.Name(tok.Text))
	case l[0].is("["):
		return grove.Node(api.NodeArray, "", trees(l, "pipe")...)
	case l[0].is("{"):
		return grove.Node(api.NodeObject, "", trees(l, "entry")...)
	case tok.Kind == api.TokName && lex.Word(tok.Text):
		return wordTree(tok.Text, l)
	}
	kinds := map[int]int{api.TokNumber: api.NodeNumber, api.TokVar: api.NodeVar, api.TokFormat: api.NodeFormat, api.TokName: api.NodeCall}
	switch {
	case l[0].is("."):
		return self
	case l[0].is(".."):
		return grove.Node(api.NodeAll, "")
	}
	return grove.Node(kinds[tok.Kind], tok.Text, trees(l, "pipe")...)
}

func wordTree(word string, l []branch) api.Node {
	within := trees(l, "post", "pattern", "pipe")
	none := grove.Node(api.NodeNone, "")
	switch word {
	case "try":
		return grove.Node(api.NodeTry, "", within...)
	case "break":
		return grove.Node(api.NodeBreak, l[1].token.Text)
	case "reduce":
		return grove.Node(api.NodeReduce, "", within...)
	case "foreach":
		return grove.Node(api.NodeForeach, "", append(within, none)[:5]...)
	}
	n := none
	if len(within)%2 == 1 {
		n = within[len(within)-1]
	}
	for i := len(within)/2*2 - 2; i >= 0; i -= 2 {
		n = grove.Node(api.NodeIf, "", within[i], within[i+1], n)
	}
	return n
}

func entryTree(l []branch) api.Node {
	tok, last := l[0].token, l[len(l)-1]
	var key api.Node
	switch {
	case tok.Kind == api.TokVar:
		return grove.Node(api.NodeEntry, "", grove.Name(tok.Text), grove.Node(api.NodeVar, tok.Text))
	case l[0].is("("):
		return grove.Node(api.NodeEntry, "", l[1].tree(), last.tree())
	case l[0].rule == "text":
		key = l[0].tree()
	default:
		key = grove.Name(tok.Text)
	}
	if len(l) > 1 {
		return grove.Node(api.NodeEntry, "", key, last.tree())
	}
	return grove.Node(api.NodeEntry, "", key, grove.Node(api.NodeIndex, "", grove.Node(api.NodeSelf, ""), key))
}

func patKeyTree(l []branch) api.Node {
	switch l[0].token.Kind {
	case api.TokVar:
		return grove.Node(api.NodePatKey, l[0].token.Text, grove.Node(api.NodePatVar, l[0].token.Text))
	case api.TokName:
		return grove.Node(api.NodePatKey, l[0].token.Text, l[2].tree())
	}
	return grove.Node(api.NodePatKey, l[1].token.Text, l[len(l)-1].tree()) // behind the quote: what is said, or the other quote
}

func textTree(format string, l []branch) api.Node {
	var kids []api.Node
	for _, b := range l {
		switch {
		case b.rule == "pipe":
			kids = append(kids, b.tree())
		case b.token.Kind == api.TokText:
			kids = append(kids, grove.Node(api.NodePart, b.token.Text))
		}
	}
	return grove.Node(api.NodeText, format, kids...)
}
