package syntax

import (
	"lorgnette/api"
)

// pipe goes past a pipe. Whatever stands where one too many would begin, that is what is wrong there.
func (p *parser) pipe() *part {
	if p.pipes == maxPipes {
		panic(p.fault(api.ErrDepth))
	}
	p.pipes++
	made := p.anyPipe()
	p.pipes--
	return made
}

// anyPipe goes past a pipe, however many it stands in.
func (p *parser) anyPipe() *part {
	switch {
	case p.skip("def"):
		return p.definition()
	case p.skip("label"):
		name := p.take(api.TokVar)
		p.need("|")
		return newPart(api.NodeLabel, name, p.pipe())
	}
	first := p.climb(comma)
	if !p.skip("|") {
		return first
	}
	return newPart(api.NodePipe, "", first, p.pipe())
}

// definition goes past what stands behind the word def.
func (p *parser) definition() *part {
	name := p.take(api.TokName)
	var kids []*part
	if p.skip("(") {
		kids = p.row(p.param, ";", ")")
	}
	p.need(":")
	body := p.pipe()
	p.need(";")
	rest := p.pipe()
	return newPart(api.NodeDef, name, append(kids, body, rest)...)
}

// param goes past a definition's param.
func (p *parser) param() *part {
	if p.next().Kind == api.TokVar {
		return newPart(api.NodeParam, "$"+p.take(api.TokVar))
	}
	return newPart(api.NodeParam, p.take(api.TokName))
}
