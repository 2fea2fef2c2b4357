package valid

import (
	"lorgnette/api"
)

// What may follow within a text, behind blanks. (Ahead of a whole text none are passed by.)
const (
	value  = iota // a text
	item          // a text, or the end of an array that has none
	key           // a text in quotes
	entry         // a text in quotes, or the end of an object that has none
	colon         // a colon
	behind        // a comma, or a bracket that closes
	whole         // nothing: the text has ended
	wrong         // nothing: the next byte may not stand there
)

// ended is what peek tells behind the last byte.
const ended = -1

// reader goes through texts.
type reader struct {
	b    []byte
	at   int // how many bytes were gone through
	open brackets
	most int  // how many brackets may be open
	deep bool // the next byte is a bracket that is one too many
}

// text goes past a text; else it goes up to the byte that is wrong.
func (r *reader) text() bool {
	state := r.turn(value)
	for state != whole && state != wrong {
		r.blanks()
		state = r.turn(state)
	}
	return state == whole
}

// turn goes past what may follow, and tells what may do so then.
func (r *reader) turn(state int) int {
	switch state {
	case item:
		if r.take(']') {
			return r.closed()
		}
		fallthrough
	case value:
		return r.value()
	case entry:
		if r.take('}') {
			return r.closed()
		}
		fallthrough
	case key:
		return r.key()
	case colon:
		if r.take(':') {
			return value
		}
	case behind:
		return r.behind()
	}
	return wrong
}

// value goes past a text, or past the bracket that begins it.
func (r *reader) value() int {
	sound := false
	switch c := r.peek(); c {
	case '[', '{':
		return r.opened(c == '{')
	case '"':
		sound = r.quoted()
	case 'n':
		sound = r.word("null")
	case 't':
		sound = r.word("true")
	case 'f':
		sound = r.word("false")
	default:
		sound = r.number()
	}
	if !sound {
		return wrong
	}
	return r.follows()
}

// key goes past an entry's key.
func (r *reader) key() int {
	if !r.quoted() {
		return wrong
	}
	return colon
}

// opened goes past a bracket that opens.
func (r *reader) opened(object bool) int {
	if r.open.count >= r.most {
		r.deep = true
		return wrong
	}
	r.at++
	r.open.push(object)
	if object {
		return entry
	}
	return item
}

// closed tells what follows a bracket that closes.
func (r *reader) closed() int {
	r.open.pop()
	return r.follows()
}

// follows tells what follows a text.
func (r *reader) follows() int {
	if r.open.count == 0 {
		return whole
	}
	return behind
}

// behind goes past what stands behind a text within brackets.
func (r *reader) behind() int {
	more, end := value, ']'
	if r.open.object() {
		more, end = key, '}'
	}
	switch {
	case r.take(','):
		return more
	case r.take(int(end)):
		return r.closed()
	}
	return wrong
}

// fault is why the next byte, or the end, may not follow.
func (r *reader) fault() api.Fault {
	switch {
	case r.atEnd():
		return api.Fault{At: r.at, Why: api.WhyEnd}
	case r.deep:
		return api.Fault{At: r.at, Why: api.WhyDepth}
	}
	return api.Fault{At: r.at, Why: api.WhyByte}
}

// atEnd tells whether all bytes were gone through.
func (r *reader) atEnd() bool {
	return r.at >= len(r.b)
}

// peek is the next byte.
func (r *reader) peek() int {
	if r.atEnd() {
		return ended
	}
	return int(r.b[r.at])
}

// take goes past the next byte, if it is the one that is given.
func (r *reader) take(c int) bool {
	if r.peek() != c {
		return false
	}
	r.at++
	return true
}

// blanks goes past blanks.
func (r *reader) blanks() {
	for !r.atEnd() && isBlank(r.b[r.at]) {
		r.at++
	}
}

// isBlank tells whether a byte is a blank.
func isBlank(c byte) bool {
	return c == ' ' || c == '\t' || c == '\n' || c == '\r'
}
