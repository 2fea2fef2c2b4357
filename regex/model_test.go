package regex_test

import (
	"strings"

	"lorgnette/api"
)

// What a model has gone past last, which tells what may stand next.
const (
	atPart     = iota // a part may begin
	atAtom            // an atom
	atRepeat          // what repeats it
	atBack            // a backslash
	atOpen            // the ( of a group
	atAsk             // its (?
	atName            // its (?<, and what there is of its name
	atLeast           // the { of a repeat, and what there is of its number
	atComma           // its ,
	atMost            // what there is of its second number
	atSet             // the [ of a set
	atNot             // its [^
	atItem            // an item that ended
	atFirst           // a sign of an item
	atDash            // a - behind that
	atBackItem        // a backslash where an item begins
	atBackDash        // a backslash behind a -
	atFault           // what doesn't go on
)

// piece is a part of a pattern as the model lays it down: an atom, a (, a ), a |, or a repeat.
type piece struct {
	kind     byte
	tree     api.Regex // of an atom, a repeat without its kid, or a group without its kid
	numbered bool
}

// model goes through a pattern one sign at a time, never back: what it has gone past is all told by its fields.
type model struct {
	state  int
	open   int // groups
	pieces []piece
	names  []string
	said   string    // of a name, or a number
	least  int       // the number ahead
	first  rune      // of an item
	set    api.Regex // that is being read
}

// modelOf is what Parse should tell of a pattern.
func modelOf(pattern string, free bool) answer {
	signs := []rune(pattern)
	if len(signs) > 1000 {
		return fault(0, api.ErrSize)
	}
	m := model{}
	noted := false
	for i, r := range signs {
		if free && m.state <= atRepeat || free && m.state == atOpen && r != '?' {
			noted = r == '#' || noted && r != '\n'
			if noted || strings.ContainsRune(" \t\n\r", r) {
				if m.state == atOpen {
					m.state = atPart
				}
				continue
			}
		}
		if m.ends(r); m.state == atFault {
			return fault(i-1, api.ErrForm)
		}
		if r == '(' && m.open == 50 && (m.state <= atRepeat || m.state == atOpen) {
			return fault(i, api.ErrDepth)
		}
		if m.step(r); m.state == atFault {
			return fault(i, api.ErrForm)
		}
	}
	if m.ends(-1); m.state == atFault {
		return fault(len(signs)-1, api.ErrForm)
	}
	if m.state > atRepeat || m.open > 0 {
		return fault(len(signs), api.ErrShort)
	}
	return answer{treeOf(m.pieces), m.names, 0, api.OK}
}

func isDigit(r rune) bool  { return r >= '0' && r <= '9' }
func isLetter(r rune) bool { return r >= 'a' && r <= 'z' || r >= 'A' && r <= 'Z' }
func isMark(r rune) bool   { return r > 32 && r < 127 && !isDigit(r) && !isLetter(r) }

// ends judges a name or a number that ends ahead of the next sign.
func (m *model) ends(r rune) {
	switch {
	case m.said == "":
	case m.state == atName:
		if r != '_' && !isLetter(r) && !isDigit(r) {
			for _, name := range m.names {
				if name == m.said {
					m.state = atFault
				}
			}
		}
	case !isDigit(r) || len(m.said) == 3:
		if n := m.number(); n > 255 || m.state == atMost && n < m.least {
			m.state = atFault
		}
	}
}

func (m *model) number() int {
	n := 0
	for _, r := range m.said {
		n = 10*n + int(r-'0')
	}
	return n
}

// step goes past a sign.
func (m *model) step(r rune) {
	was := m.state
	m.state = atFault
	switch was {
	case atPart, atAtom, atRepeat:
		m.part(was, r)
	case atOpen, atAsk, atName:
		m.group(was, r)
	case atLeast, atComma, atMost:
		m.braces(was, r)
	case atBack:
		m.escape(r)
	default:
		m.item(was, r)
	}
}

// lay lays a piece down, behind which the model stands as told.
func (m *model) lay(state int, p piece) {
	m.pieces = append(m.pieces, p)
	m.state = state
}

func (m *model) atom(x api.Regex) {
	m.lay(atAtom, piece{kind: 'a', tree: x})
}

func (m *model) repeat(least, most int) {
	m.lay(atRepeat, piece{kind: '*', tree: api.Regex{Kind: api.ReRepeat, Min: least, Max: most}})
}

// part goes past a sign where a part may begin, and, behind others, a repeat or its ?.
func (m *model) part(was int, r rune) {
	switch {
	case r == '?' && was == atRepeat:
		m.pieces[len(m.pieces)-1].tree.Lazy = true
		m.state = atPart
	case r == '*' && was == atAtom:
		m.repeat(0, -1)
	case r == '+' && was == atAtom:
		m.repeat(1, -1)
	case r == '?' && was == atAtom:
		m.repeat(0, 1)
	case r == '{' && was == atAtom:
		m.state, m.said = atLeast, ""
	case r == '|':
		m.lay(atPart, piece{kind: '|'})
	case r == ')' && m.open > 0:
		m.open--
		m.lay(atAtom, piece{kind: ')'})
	case r == '(':
		m.open++
		m.state = atOpen
		m.group(atPart, r)
	case r == '[':
		m.state, m.set = atSet, api.Regex{Kind: api.ReSet}
	case r == '\\':
		m.state = atBack
	case r == '.':
		m.atom(some)
	case r == '^':
		m.atom(begin)
	case r == '$':
		m.atom(end)
	case !strings.ContainsRune("*+?{}])", r):
		m.atom(sign(r))
	}
}

// group goes past a ( and what tells the group's kind: a plain one, until anything else is told.
func (m *model) group(was int, r rune) {
	last := len(m.pieces) - 1
	switch {
	case was == atPart:
		m.names = append(m.names, "")
		m.lay(atOpen, piece{'(', api.Regex{Kind: api.ReGroup, Group: len(m.names)}, true})
	case was == atOpen && r == '?':
		m.state = atAsk
	case was == atOpen:
		m.part(atPart, r)
	case was == atAsk && r == ':':
		m.names = m.names[:len(m.names)-1]
		m.pieces[last] = piece{kind: '('}
		m.state = atPart
	case was == atAsk && r == '<':
		m.state, m.said = atName, ""
	case was == atName && r == '>' && m.said != "":
		m.pieces[last].tree.Name, m.names[len(m.names)-1] = m.said, m.said
		m.state, m.said = atPart, ""
	case was == atName && (isLetter(r) || r == '_' || isDigit(r) && m.said != ""):
		m.state, m.said = atName, m.said+string(r)
	}
}

// braces goes past a sign within a repeat's braces.
func (m *model) braces(was int, r rune) {
	digits := m.said
	switch {
	case isDigit(r) && len(digits) < 3 && was == atComma:
		m.state, m.said = atMost, digits+string(r)
	case isDigit(r) && len(digits) < 3:
		m.state, m.said = was, digits+string(r)
	case r == ',' && was == atLeast && digits != "":
		m.least = m.number()
		m.state, m.said = atComma, ""
	case r == '}' && was == atLeast && digits != "":
		m.repeat(m.number(), m.number())
	case r == '}' && was == atComma:
		m.repeat(m.least, -1)
	case r == '}' && was == atMost:
		m.repeat(m.least, m.number())
	}
	if m.state == atRepeat {
		m.said = ""
	}
}

// coded are the letters that stand for another sign behind a backslash.
var coded = map[rune]rune{'n': 10, 't': 9, 'r': 13}

// classes are the letters that stand for more than one sign behind it.
var classes = map[rune]api.Regex{'d': class('d'), 'w': class('w'), 's': class('s'), 'D': noClass('d'), 'W': noClass('w'), 'S': noClass('s')}

// escape goes past a sign behind a backslash, outside sets.
func (m *model) escape(r rune) {
	code, isCoded := coded[r]
	x, isClass := classes[r]
	switch {
	case isClass:
		m.atom(x)
	case r == 'b':
		m.atom(word)
	case r == 'B':
		m.atom(noWord)
	case isCoded:
		m.atom(sign(code))
	case isMark(r):
		m.atom(sign(r))
	}
}

// item goes past a sign within a set.
func (m *model) item(was int, r rune) {
	code, isCoded := coded[r]
	x, isClass := classes[r]
	if !isCoded {
		code = r
	}
	put := func(state int, x api.Regex) {
		m.state = state
		m.set.Kids = append(m.set.Kids, x)
	}
	switch {
	case was == atBackItem && isClass:
		put(atItem, x)
	case was == atBackItem && (isCoded || isMark(r)):
		m.state, m.first = atFirst, code
		put(atFirst, sign(code))
	case was == atBackDash && (isCoded || isMark(r)), was == atDash && !strings.ContainsRune(`[]\`, r):
		if was == atDash {
			code = r
		}
		if code >= m.first {
			m.set.Kids[len(m.set.Kids)-1] = span(m.first, code)
			m.state = atItem
		}
	case was == atBackItem, was == atBackDash:
	case was == atDash && r == '\\':
		m.state = atBackDash
	case was == atDash && r == ']':
		put(atItem, sign('-'))
		m.atom(m.set)
	case was == atFirst && r == '-':
		m.state = atDash
	case was == atSet && r == '^':
		m.state, m.set.Not = atNot, true
	case r == ']' && (was == atItem || was == atFirst):
		m.atom(m.set)
	case r == '\\' && was != atDash:
		m.state = atBackItem
	case r != '[' && r != ']' && was != atDash:
		m.first = r
		put(atFirst, sign(r))
	}
}

// sizeOf is how many pieces the first part of some has, without what repeats it: a group has all that stand in it, too.
func sizeOf(pieces []piece) int {
	open := 0
	for i, p := range pieces {
		switch p.kind {
		case '(':
			open++
		case ')':
			open--
		}
		if open == 0 {
			return i + 1
		}
	}
	return len(pieces)
}

// treeOf is the tree of pieces: they are cut at each | that stands in no group.
func treeOf(pieces []piece) api.Regex {
	var seqs []api.Regex
	from := 0
	for i := 0; i < len(pieces); i += sizeOf(pieces[i:]) {
		if pieces[i].kind == '|' {
			seqs = append(seqs, seqOf(pieces[from:i]))
			from = i + 1
		}
	}
	seqs = append(seqs, seqOf(pieces[from:]))
	if len(seqs) == 1 {
		return seqs[0]
	}
	return alt(seqs...)
}

// seqOf is the tree of pieces among which no | stands outside of groups.
func seqOf(pieces []piece) api.Regex {
	var parts []api.Regex
	for len(pieces) > 0 {
		size := sizeOf(pieces)
		switch x := pieces[0].tree; pieces[0].kind {
		case '(':
			inner := treeOf(pieces[1 : size-1])
			if pieces[0].numbered {
				inner = group(x.Group, x.Name, inner)
			}
			parts = append(parts, inner)
		case '*':
			x.Kids = []api.Regex{parts[len(parts)-1]}
			parts[len(parts)-1] = x
		default:
			parts = append(parts, x)
		}
		pieces = pieces[size:]
	}
	switch len(parts) {
	case 0:
		return empty
	case 1:
		return parts[0]
	}
	return seq(parts...)
}
