package lex

import (
	"lorgnette/api"
)

// maxTexts is how many texts a text may stand in.
const maxTexts = 50

// What may be open: a ) is another token within a filter than within a bracket of its own, and within a text there are no tokens at all.
const (
	nothing = iota
	text    // from a TokOpen to its TokShut
	filter  // from a TokIn to its TokOut
	bracket // from a ( to its )
)

// lexer goes through a filter's text.
type lexer struct {
	s      string
	at     int // how many bytes were gone through
	tokens []api.Token
	open   []byte // what is open, the innermost one last
	texts  int    // how many of these are texts
}

// all goes through all of it, or up to what is wrong.
func (l *lexer) all() api.Errno {
	for l.more() {
		if err := l.step(); err != api.OK {
			return err
		}
	}
	if l.texts > 0 {
		return api.ErrShort
	}
	return api.OK
}

// more tells whether anything is left but blanks and notes, which it goes past.
func (l *lexer) more() bool {
	if l.innermost() != text { // there they are pieces
		l.at = blanksEnd(l.s, l.at)
	}
	return l.at < len(l.s)
}

// step goes past what stands at the next place.
func (l *lexer) step() api.Errno {
	if l.innermost() == text {
		return l.pieces()
	}
	return l.token()
}

// token goes past a token outside texts.
func (l *lexer) token() api.Errno {
	behind := l.at + 1
	end := nameEnd(l.s, behind)
	named := end > behind
	switch c := l.s[l.at]; {
	case isLetter(c):
		l.put(api.TokName, l.at, nameEnd(l.s, l.at))
	case isDigit(c):
		l.put(api.TokNumber, l.at, numberEnd(l.s, l.at))
	case c == '.' && named:
		l.put(api.TokField, behind, end)
	case c == '$' && named:
		l.put(api.TokVar, behind, end)
	case c == '@' && named:
		l.put(api.TokFormat, l.at, end)
	case c == mark:
		return l.begin()
	default: // a $ or @ with no name behind, too: neither begins a sign
		return l.sign()
	}
	return api.OK
}

// sign goes past a sign, or past the ) that ends a filter within a text.
func (l *lexer) sign() api.Errno {
	sign := signOf(l.s[l.at:])
	end := l.at + len(sign)
	switch {
	case sign == "":
		return api.ErrForm
	case sign == ")" && l.innermost() == filter:
		l.pop()
		l.put(api.TokOut, end, end)
		return api.OK
	case sign == ")" && l.innermost() == bracket:
		l.pop()
	case sign == "(":
		l.push(bracket)
	}
	l.put(api.TokOp, l.at, end)
	return api.OK
}

// put lays down a token that begins at the next place and ends at to; its text begins at from.
func (l *lexer) put(kind, from, to int) {
	l.tokens = append(l.tokens, api.Token{Kind: kind, Text: l.s[from:to], At: l.at})
	l.at = to
}

// innermost is what is open.
func (l *lexer) innermost() byte {
	if len(l.open) == 0 {
		return nothing
	}
	return l.open[len(l.open)-1]
}

// push opens something.
func (l *lexer) push(what byte) {
	l.open = append(l.open, what)
}

// pop ends what is open.
func (l *lexer) pop() {
	l.open = l.open[:len(l.open)-1]
}
