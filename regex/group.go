package regex

import (
	"lorgnette/api"
	"lorgnette/utf"
)

// maxGroups is how many groups a part may stand in.
const maxGroups = 50

// group goes past a group, of any kind.
func (p *parser) group() api.Regex {
	if p.within == maxGroups {
		panic(fault{p.at, api.ErrDepth})
	}
	p.take(only('('))
	name, numbered := p.head()
	group := api.Regex{Kind: api.ReGroup, Name: name}
	if numbered {
		p.names = append(p.names, name)
		group.Group = len(p.names)
	}
	p.within++
	inner := p.alt()
	p.within--
	p.take(only(')'))
	if !numbered {
		return inner
	}
	group.Kids = []api.Regex{inner}
	return group
}

// head goes past what tells a group's kind: its name, if it has one, and whether it has a number.
func (p *parser) head() (name string, numbered bool) {
	if !p.skip(only('?')) {
		return "", true
	}
	if p.take(oneOf(":<")) == ':' {
		return "", false
	}
	name = p.name()
	p.take(only('>'))
	return name, true
}

// name goes past a name that no group has yet.
func (p *parser) name() string {
	first := p.at
	begins := letter().or(only('_'))
	p.take(begins)
	for p.skip(begins.or(digit())) {
	}
	name, _ := utf.Implode(p.signs[first:p.at])
	if _, ok := p.taken[name]; ok {
		panic(p.refused())
	}
	p.taken[name] = struct{}{}
	return name
}
