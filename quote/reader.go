package quote

import (
	"lorgnette/api"
	"lorgnette/utf"
)

// replacement is what half of a code point stands for.
const replacement = 65533

// ended is what peek tells behind the last byte.
const ended = -1

// maxSize is how many bytes a code point has at the most.
const maxSize = 4

// reader goes through a text in quotes.
type reader struct {
	b   []byte
	at  int       // how many bytes were gone through
	err api.Errno // what is wrong with the next one
}

// points tells what the text's pieces stand for, one by one, to who ranges over it. When it has ended, at and err tell how.
func (r *reader) points(yield func(int) bool) {
	if !r.take(mark) {
		r.err = r.fault()
		return
	}
	for !r.take(mark) {
		p, ok := r.piece()
		if !ok {
			r.err = r.fault()
			return
		}
		if !yield(p) {
			return
		}
	}
}

// fault is what is wrong with the next byte, where no text in quotes goes on with it.
func (r *reader) fault() api.Errno {
	switch c := r.peek(); {
	case c == ended:
		return api.ErrShort
	case c > lastSmall:
		return api.ErrBytes
	}
	return api.ErrForm
}

// peek is the next byte.
func (r *reader) peek() int {
	if r.at >= len(r.b) {
		return ended
	}
	return int(r.b[r.at])
}

// take goes past the next byte, if it is the one that is given.
func (r *reader) take(c int) bool {
	if r.peek() != c {
		return false
	}
	r.at++
	return true
}

// piece goes past a piece, and tells what it stands for; else it goes up to the byte that is wrong.
func (r *reader) piece() (int, bool) {
	switch c := r.peek(); {
	case c < firstPlain: // the end, too
		return 0, false
	case c > lastSmall:
		return r.point()
	case c == backslash:
		r.at++
		return r.escaped()
	default:
		r.at++
		return c, true
	}
}

// point goes past a code point's bytes.
func (r *reader) point() (int, bool) {
	rest := string(r.b[r.at:min(r.at+maxSize, len(r.b))])
	p, n, sound := utf.Decode(rest)
	switch {
	case sound:
		r.at += n
		return p, true
	case cutOff(rest):
		r.at = len(r.b)
	}
	return 0, false
}

// cutOff tells whether bytes that begin with no code point's bytes would do so, if more followed. To try 128 and 191 is enough: wherever a byte may follow, one of them may.
func cutOff(rest string) bool {
	_, _, low := utf.Decode(rest + "\x80\x80\x80")
	_, _, high := utf.Decode(rest + "\xbf\xbf\xbf")
	return low || high
}

// escaped goes past what stands behind a backslash.
func (r *reader) escaped() (int, bool) {
	c := r.peek()
	p := c
	switch c {
	case mark, backslash, '/':
	case 'b':
		p = '\b'
	case 'f':
		p = '\f'
	case 'n':
		p = '\n'
	case 'r':
		p = '\r'
	case 't':
		p = '\t'
	case 'u':
		r.at++
		return r.coded()
	default:
		return 0, false
	}
	r.at++
	return p, true
}

// coded goes past the digits behind \u, and past the next such piece, if both are one code point.
func (r *reader) coded() (int, bool) {
	h, ok := r.unit()
	switch {
	case !ok:
		return 0, false
	case h < firstHigh || h > lastLow:
		return h, true
	case h >= firstLow:
		return replacement, true
	}
	behind := r.at
	if k, ok := r.low(); ok {
		return lastUnit + 1 + halfSize*(h-firstHigh) + k - firstLow, true
	}
	r.at = behind // the next piece stands for itself, or is wrong by itself
	return replacement, true
}

// low goes past a piece, if it may be the second one of two that are one code point.
func (r *reader) low() (int, bool) {
	if !r.take(backslash) || !r.take('u') {
		return 0, false
	}
	k, ok := r.unit()
	return k, ok && k >= firstLow && k <= lastLow
}

// unit goes past four hexadecimal digits, and tells their number.
func (r *reader) unit() (int, bool) {
	h := 0
	for range 4 {
		d, ok := digitOf(r.peek())
		if !ok {
			return 0, false
		}
		h = h<<4 | d
		r.at++
	}
	return h, true
}

// digitOf is a hexadecimal digit's number.
func digitOf(c int) (int, bool) {
	switch {
	case c >= '0' && c <= '9':
		return c - '0', true
	case c >= 'a' && c <= 'f':
		return c - 'a' + 10, true
	case c >= 'A' && c <= 'F':
		return c - 'A' + 10, true
	}
	return 0, false
}
