package regex

import (
	"lorgnette/api"
)

// set goes past a set, behind its [.
func (p *parser) set() api.Regex {
	set := api.Regex{Kind: api.ReSet, Not: p.skip(only('^'))}
	for len(set.Kids) == 0 || !p.skip(only(']')) {
		set.Kids = append(set.Kids, p.item())
	}
	return set
}

// item goes past a class, a sign, or all signs from one to another one.
func (p *parser) item() api.Regex {
	if p.sees(only('\\'), classed()) {
		p.take(only('\\'))
		return p.class()
	}
	first := p.one()
	if !p.sees(only('-')) || p.sees(only('-'), only(']')) {
		return itself(first)
	}
	p.take(only('-'))
	last := p.one()
	if last < first {
		panic(p.refused())
	}
	return api.Regex{Kind: api.ReRange, Rune: first, To: last}
}

// one goes past a sign of a set, and tells it.
func (p *parser) one() int {
	if p.skip(only('\\')) {
		return p.escaped()
	}
	return p.take(noneOf(`[]\`))
}
