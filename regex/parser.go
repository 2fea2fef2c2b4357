package regex

import (
	"lorgnette/api"
)

// parser goes through a pattern's signs.
type parser struct {
	signs  []int
	at     int // how many were gone past
	free   bool
	within int                 // how many groups the next part stands in
	names  []string            // the groups' names, in the order in which they begin
	taken  map[string]struct{} // the names among these
}

// fault is what the parser gives up with.
type fault struct {
	at  int
	err api.Errno
}

// all goes past all signs, or tells why it gave up.
func (p *parser) all() (tree api.Regex, at int, err api.Errno) {
	defer func() {
		switch why := recover().(type) {
		case nil:
		case fault:
			tree, at, err = api.Regex{}, why.at, why.err
		default: // none of the parser's own
			panic(why)
		}
	}()
	tree = p.alt()
	if p.at < len(p.signs) {
		panic(p.unfit())
	}
	return tree, 0, api.OK
}

// unfit is the fault that with the next sign nothing goes on.
func (p *parser) unfit() fault {
	if p.at == len(p.signs) {
		return fault{p.at, api.ErrShort}
	}
	return fault{p.at, api.ErrForm}
}

// refused is the fault of what ends with the last sign that was gone past.
func (p *parser) refused() fault {
	return fault{p.at - 1, api.ErrForm}
}

// sees tells whether looks fit the next signs, one look a sign.
func (p *parser) sees(looks ...look) bool {
	for i, fits := range looks {
		if p.at+i >= len(p.signs) || !fits(p.signs[p.at+i]) {
			return false
		}
	}
	return true
}

// skip goes past the next sign, if it fits.
func (p *parser) skip(fits look) bool {
	if !p.sees(fits) {
		return false
	}
	p.at++
	return true
}

// take goes past the next sign, which must fit, and tells it.
func (p *parser) take(fits look) int {
	if !p.skip(fits) {
		panic(p.unfit())
	}
	return p.signs[p.at-1]
}

// blanks goes past blanks and notes, where these are as if they weren't there.
func (p *parser) blanks() {
	if !p.free {
		return
	}
	for {
		switch {
		case p.skip(oneOf(" \t\n\r")):
		case p.sees(only('#')):
			p.note()
		default:
			return
		}
	}
}

// note goes past a note, up to the end of its line.
func (p *parser) note() {
	for p.skip(noneOf("\n")) {
	}
}
