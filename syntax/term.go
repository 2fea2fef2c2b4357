package syntax

import (
	"lorgnette/api"
	"lorgnette/dec"
)

// term goes past a term.
func (p *parser) term() *part {
	switch p.next().Kind {
	case api.TokNumber:
		return p.number()
	case api.TokName:
		return p.named()
	case api.TokField:
		return index(self(), plain(p.take(api.TokField)))
	case api.TokVar:
		return newPart(api.NodeVar, p.take(api.TokVar))
	case api.TokFormat:
		return p.format()
	case api.TokOpen:
		return p.text("")
	}
	return p.signed()
}

// number goes past a number.
func (p *parser) number() *part {
	if _, err := dec.Parse(p.next().Text); err != api.OK {
		panic(p.fault(err))
	}
	return newPart(api.NodeNumber, p.take(api.TokNumber))
}

// format goes past a format, and the text that it is for.
func (p *parser) format() *part {
	name := p.take(api.TokFormat)
	if p.next().Kind == api.TokOpen {
		return p.text(name)
	}
	return newPart(api.NodeFormat, name)
}

// text goes past a text, for a format or for none.
func (p *parser) text(format string) *part {
	p.take(api.TokOpen)
	var kids []*part
	for {
		switch p.next().Kind {
		case api.TokText:
			kids = append(kids, newPart(api.NodePart, p.take(api.TokText)))
		case api.TokIn:
			p.take(api.TokIn)
			kids = append(kids, p.pipe())
			p.take(api.TokOut)
		default:
			p.take(api.TokShut)
			return newPart(api.NodeText, format, kids...)
		}
	}
}

// signed goes past a term that begins with a sign.
func (p *parser) signed() *part {
	switch {
	case p.skip("."):
		if p.next().Kind == api.TokOpen {
			return index(self(), p.text(""))
		}
		return self()
	case p.skip(".."):
		return newPart(api.NodeAll, "")
	case p.skip("("):
		made := p.pipe()
		p.need(")")
		return made
	case p.skip("["):
		if p.skip("]") {
			return newPart(api.NodeArray, "")
		}
		items := p.pipe()
		p.need("]")
		return newPart(api.NodeArray, "", items)
	case p.skip("{"):
		if p.skip("}") {
			return newPart(api.NodeObject, "")
		}
		return newPart(api.NodeObject, "", p.row(p.entry, ",", "}")...)
	}
	panic(p.unfit())
}
