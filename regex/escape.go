package regex

import (
	"lorgnette/api"
)

// escape goes past what stands behind a backslash, outside sets.
func (p *parser) escape() api.Regex {
	switch {
	case p.sees(classed()):
		return p.class()
	case p.skip(only('b')):
		return api.Regex{Kind: api.ReWord}
	case p.skip(only('B')):
		return api.Regex{Kind: api.ReWord, Not: true}
	}
	return itself(p.escaped())
}

// classed is a letter that stands for a class of signs behind a backslash.
func classed() look {
	return oneOf("dDwWsS")
}

// class goes past a class's letter: a capital stands for all signs that aren't in it.
func (p *parser) class() api.Regex {
	sign := p.take(classed())
	if capital()(sign) {
		return api.Regex{Kind: api.ReClass, Rune: sign - 'A' + 'a', Not: true}
	}
	return api.Regex{Kind: api.ReClass, Rune: sign}
}

// escaped goes past what stands for one sign behind a backslash, and tells that sign.
func (p *parser) escaped() int {
	switch sign := p.take(oneOf("ntr").or(mark())); sign {
	case 'n':
		return '\n'
	case 't':
		return '\t'
	case 'r':
		return '\r'
	default:
		return sign
	}
}
