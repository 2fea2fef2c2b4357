package syntax

import (
	"lorgnette/api"
)

// entry goes past an object's entry.
func (p *parser) entry() *part {
	switch {
	case p.next().Kind == api.TokVar:
		name := p.take(api.TokVar)
		return newPart(api.NodeEntry, "", plain(name), newPart(api.NodeVar, name))
	case p.skip("("):
		key := p.pipe()
		p.need(")")
		p.need(":")
		return newPart(api.NodeEntry, "", key, p.climb(alternative))
	}
	key := p.key()
	if p.skip(":") {
		return newPart(api.NodeEntry, "", key, p.climb(alternative))
	}
	return newPart(api.NodeEntry, "", key, index(self(), key))
}

// key goes past an entry's key that may stand without a value.
func (p *parser) key() *part {
	if p.next().Kind == api.TokOpen {
		return p.text("")
	}
	return plain(p.take(api.TokName))
}

// pattern goes past a pattern.
func (p *parser) pattern() *part {
	switch {
	case p.skip("["):
		return newPart(api.NodePatArr, "", p.row(p.pattern, ",", "]")...)
	case p.skip("{"):
		return newPart(api.NodePatObj, "", p.row(p.patternKey, ",", "}")...)
	}
	return newPart(api.NodePatVar, p.take(api.TokVar))
}

// patternKey goes past a key of a pattern, and the pattern that it has.
func (p *parser) patternKey() *part {
	if p.next().Kind == api.TokVar {
		name := p.take(api.TokVar)
		return newPart(api.NodePatKey, name, newPart(api.NodePatVar, name))
	}
	key := p.literalKey()
	p.need(":")
	return newPart(api.NodePatKey, key, p.pattern())
}

// literalKey goes past a pattern's key: a name, or a text in which no filter stands.
func (p *parser) literalKey() string {
	if p.next().Kind != api.TokOpen {
		return p.take(api.TokName)
	}
	p.take(api.TokOpen)
	var said string
	if p.next().Kind == api.TokText {
		said = p.take(api.TokText)
	}
	p.take(api.TokShut)
	return said
}
