package syntax

import (
	"lorgnette/api"
	"lorgnette/lex"
)

// maxPipes is how many pipes a pipe may stand in.
const maxPipes = 600

// parser goes through a filter's tokens.
type parser struct {
	tokens []api.Token
	at     int // how many were gone past
	end    int // the place behind all of them
	pipes  int // how many pipes the next one stands in
}

// fault is what the parser gives up with.
type fault struct {
	at  int
	err api.Errno
}

// all goes past all tokens, or tells why it gave up.
func (p *parser) all() (tree *part, at int, err api.Errno) {
	defer func() {
		switch why := recover().(type) {
		case nil:
		case fault:
			tree, at, err = nil, why.at, why.err
		default: // none of the parser's own
			panic(why)
		}
	}()
	tree = p.pipe()
	if p.at < len(p.tokens) {
		panic(p.unfit())
	}
	return tree, 0, api.OK
}

// next is the next token; one of no kind, if there is none.
func (p *parser) next() api.Token {
	return p.behind(0)
}

// behind is the token that stands so many behind the next one.
func (p *parser) behind(count int) api.Token {
	if p.at+count >= len(p.tokens) {
		return api.Token{}
	}
	return p.tokens[p.at+count]
}

// fault is one at the next token.
func (p *parser) fault(err api.Errno) fault {
	if p.at == len(p.tokens) {
		return fault{p.end, err}
	}
	return fault{p.next().At, err}
}

// unfit is the fault that with the next token nothing goes on.
func (p *parser) unfit() fault {
	if p.at == len(p.tokens) {
		return p.fault(api.ErrShort)
	}
	return p.fault(api.ErrForm)
}

// is tells whether the next token is a sign, or a word.
func (p *parser) is(sign string) bool {
	return isSign(p.next(), sign)
}

// isSign tells whether a token is a sign, or a word: one of these by its text alone, as a text might be too.
func isSign(t api.Token, sign string) bool {
	return (t.Kind == api.TokOp || t.Kind == api.TokName) && t.Text == sign
}

// skip goes past a sign or a word, if it is the next token.
func (p *parser) skip(sign string) bool {
	if !p.is(sign) {
		return false
	}
	p.at++
	return true
}

// need goes past a sign or a word.
func (p *parser) need(sign string) {
	if !p.skip(sign) {
		panic(p.unfit())
	}
}

// take goes past a token of a kind, and tells its text.
func (p *parser) take(kind int) string {
	t := p.next()
	if t.Kind != kind {
		panic(p.unfit())
	}
	p.at++
	return t.Text
}

// takeOwn goes past a name that is no word of the language.
func (p *parser) takeOwn() string {
	if lex.Word(p.next().Text) {
		panic(p.unfit())
	}
	return p.take(api.TokName)
}

// row goes past one item or more, with a sign between two of them, and past the sign that ends them.
func (p *parser) row(item func() *part, between, end string) []*part {
	items := []*part{item()}
	for !p.skip(end) {
		p.need(between)
		items = append(items, item())
	}
	return items
}
