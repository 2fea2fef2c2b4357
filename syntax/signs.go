package syntax

import (
	"lorgnette/api"
)

// Strengths of signs of two sides, and of what each of them makes of both: the stronger ones hold together first.
const (
	comma = iota
	alternative
	update
	either
	both
	comparison
	sum
	product
	single // what has no sign of two sides but within
)

// twoSided is a sign of two sides: its strength, and how strong what stands ahead of it and behind it must be. One that is weaker ahead than behind goes from the left, one that is weaker behind from the right, and any other one stands alone.
type twoSided struct {
	sign                    string
	strength, ahead, behind int
}

var signs = [...]twoSided{
	{",", comma, comma, alternative},
	{"//", alternative, update, alternative},
	{"=", update, either, either},
	{"|=", update, either, either},
	{"+=", update, either, either},
	{"-=", update, either, either},
	{"*=", update, either, either},
	{"/=", update, either, either},
	{"%=", update, either, either},
	{"//=", update, either, either},
	{"or", either, either, both},
	{"and", both, both, comparison},
	{"==", comparison, sum, sum},
	{"!=", comparison, sum, sum},
	{"<", comparison, sum, sum},
	{"<=", comparison, sum, sum},
	{">", comparison, sum, sum},
	{">=", comparison, sum, sum},
	{"+", sum, sum, product},
	{"-", sum, sum, product},
	{"*", product, product, single},
	{"/", product, product, single},
	{"%", product, product, single},
}

// climb goes past what signs of two sides hold together, none of them weaker than least.
func (p *parser) climb(least int) *part {
	made, strength := p.negated(), single
	for {
		next, ok := p.twoSided()
		if !ok || next.strength < least || strength < next.ahead {
			return made
		}
		p.at++
		made, strength = held(next.sign, made, p.climb(next.behind)), next.strength
	}
}

// twoSided is the next token, if it is a sign of two sides.
func (p *parser) twoSided() (twoSided, bool) {
	for _, row := range signs {
		if p.is(row.sign) {
			return row, true
		}
	}
	return twoSided{}, false
}

// held are two sides that a sign holds together.
func held(sign string, ahead, behind *part) *part {
	if sign == "," {
		return newPart(api.NodeComma, "", ahead, behind)
	}
	return newPart(api.NodeOp, sign, ahead, behind)
}

// negated goes past what stands on a side of a sign.
func (p *parser) negated() *part {
	if p.skip("-") {
		return newPart(api.NodeNeg, "", p.negated())
	}
	return p.bound()
}

// bound goes past a source, and a pattern that it is bound by in all that follows, if one is said.
func (p *parser) bound() *part {
	source := p.post()
	if !p.skip("as") {
		return source
	}
	pattern := p.pattern()
	p.need("|")
	return newPart(api.NodeBind, "", source, pattern, p.pipe())
}
