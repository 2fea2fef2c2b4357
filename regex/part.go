package regex

import (
	"lorgnette/api"
)

// maxTimes is how often a number may ask for a part at the most, and maxDigits how long that number may be.
const (
	maxTimes  = 255
	maxDigits = 3
)

// endless stands for no most times.
const endless = -1

// alt goes past what stands in a group, or in no group.
func (p *parser) alt() api.Regex {
	seqs := []api.Regex{p.seq()}
	for p.skip(only('|')) {
		seqs = append(seqs, p.seq())
	}
	return joined(api.ReAlt, seqs)
}

// seq goes past parts, up to what ends them.
func (p *parser) seq() api.Regex {
	var parts []api.Regex
	for p.blanks(); p.sees(noneOf("|)")); p.blanks() {
		parts = append(parts, p.part())
	}
	if len(parts) == 0 {
		return api.Regex{Kind: api.ReEmpty}
	}
	return joined(api.ReSeq, parts)
}

// joined is a tree of several ones; one alone is that one itself.
func joined(kind int, kids []api.Regex) api.Regex {
	if len(kids) == 1 {
		return kids[0]
	}
	return api.Regex{Kind: kind, Kids: kids}
}

// part goes past an atom, and past what repeats it.
func (p *parser) part() api.Regex {
	atom := p.atom()
	p.blanks()
	if !p.sees(oneOf("*+?{")) {
		return atom
	}
	least, most := p.times()
	p.blanks()
	lazy := p.skip(only('?'))
	return api.Regex{Kind: api.ReRepeat, Kids: []api.Regex{atom}, Min: least, Max: most, Lazy: lazy}
}

// times goes past the sign or the braces that say how often an atom is repeated.
func (p *parser) times() (least, most int) {
	switch p.take(oneOf("*+?{")) {
	case '*':
		return 0, endless
	case '+':
		return 1, endless
	case '?':
		return 0, 1
	}
	least, most = p.bounds()
	p.take(only('}'))
	return least, most
}

// bounds goes past what stands in braces.
func (p *parser) bounds() (least, most int) {
	least = p.number(0)
	if p.sees(only('}')) {
		return least, least
	}
	p.take(only(','))
	if p.sees(only('}')) {
		return least, endless
	}
	return least, p.number(least)
}

// number goes past a number that isn't below least.
func (p *parser) number(least int) int {
	first := p.at
	n := 0
	for p.at == first || p.at < first+maxDigits && p.sees(digit()) {
		n = 10*n + p.take(digit()) - '0'
	}
	if n < least || n > maxTimes {
		panic(p.refused())
	}
	return n
}

// atom goes past what may be repeated.
func (p *parser) atom() api.Regex {
	switch {
	case p.sees(only('(')):
		return p.group()
	case p.skip(only('[')):
		return p.set()
	case p.skip(only('\\')):
		return p.escape()
	}
	switch sign := p.take(noneOf(`*+?{}()[]|\`)); sign {
	case '.':
		return api.Regex{Kind: api.ReAny}
	case '^':
		return api.Regex{Kind: api.ReBegin}
	case '$':
		return api.Regex{Kind: api.ReEnd}
	default:
		return itself(sign)
	}
}

// itself is a sign that stands for itself.
func itself(sign int) api.Regex {
	return api.Regex{Kind: api.ReRune, Rune: sign}
}
