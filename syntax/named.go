package syntax

import (
	"lorgnette/api"
)

// named goes past a term that begins with a name, or with a word of the language.
func (p *parser) named() *part {
	switch {
	case p.skip("if"):
		return p.choice()
	case p.skip("try"):
		return p.attempt()
	case p.skip("reduce"):
		return p.reduction()
	case p.skip("foreach"):
		return p.iteration()
	case p.skip("break"):
		return newPart(api.NodeBreak, p.take(api.TokVar))
	}
	return p.call()
}

// call goes past a function's name and its arguments.
func (p *parser) call() *part {
	name := p.takeOwn()
	if !p.skip("(") {
		return newPart(api.NodeCall, name)
	}
	return newPart(api.NodeCall, name, p.row(p.pipe, ";", ")")...)
}

// choice goes past what stands behind the word if, or elif.
func (p *parser) choice() *part {
	condition := p.pipe()
	p.need("then")
	then := p.pipe()
	return newPart(api.NodeIf, "", condition, then, p.otherwise())
}

// otherwise goes past what is chosen else, and past the end of it all.
func (p *parser) otherwise() *part {
	switch {
	case p.skip("elif"):
		return p.choice()
	case p.skip("else"):
		made := p.pipe()
		p.need("end")
		return made
	}
	p.need("end")
	return none()
}

// attempt goes past what stands behind the word try.
func (p *parser) attempt() *part {
	tried := p.post()
	if !p.skip("catch") {
		return newPart(api.NodeTry, "", tried)
	}
	return newPart(api.NodeTry, "", tried, p.post())
}

// source goes past what is gone through answer by answer, the pattern that each one is bound by, and what stands in the cell first.
func (p *parser) source() (source, pattern, start *part) {
	source = p.post()
	p.need("as")
	pattern = p.pattern()
	p.need("(")
	start = p.pipe()
	p.need(";")
	return source, pattern, start
}

// reduction goes past what stands behind the word reduce.
func (p *parser) reduction() *part {
	source, pattern, start := p.source()
	step := p.pipe()
	p.need(")")
	return newPart(api.NodeReduce, "", source, pattern, start, step)
}

// iteration goes past what stands behind the word foreach.
func (p *parser) iteration() *part {
	source, pattern, start := p.source()
	step, told := p.pipe(), none()
	if p.skip(";") {
		told = p.pipe()
	}
	p.need(")")
	return newPart(api.NodeForeach, "", source, pattern, start, step, told)
}
