package syntax

import (
	"lorgnette/api"
)

// post goes past a term and its suffixes.
func (p *parser) post() *part {
	made := p.term()
	for {
		switch next := p.next(); {
		case next.Kind == api.TokField:
			made = index(made, plain(p.take(api.TokField)))
		case p.skip("?"):
			made = newPart(api.NodeTry, "", made)
		case p.skip("["):
			made = p.inner(made)
		case p.is(".") && p.behind(1).Kind == api.TokOpen:
			p.need(".")
			made = index(made, p.text(""))
		case p.is(".") && isSign(p.behind(1), "["):
			p.need(".")
		default: // a . that leads nowhere is left to be found wrong, too
			return made
		}
	}
}

// inner goes past what stands behind a [ of a suffix.
func (p *parser) inner(of *part) *part {
	if p.skip("]") {
		return newPart(api.NodeEach, "", of)
	}
	if p.skip(":") {
		to := p.pipe()
		p.need("]")
		return newPart(api.NodeSlice, "", of, none(), to)
	}
	from := p.pipe()
	if p.skip(":") {
		return newPart(api.NodeSlice, "", of, from, p.unless("]"))
	}
	p.need("]")
	return index(of, from)
}

// unless goes past a pipe and the sign behind it, or past that sign alone.
func (p *parser) unless(end string) *part {
	if p.skip(end) {
		return none()
	}
	made := p.pipe()
	p.need(end)
	return made
}
