package valid

import (
	"lorgnette/api"
	"lorgnette/quote"
)

// quoted goes past a text in quotes; else it goes up to the byte that is wrong.
func (r *reader) quoted() bool {
	_, n, err := quote.Read(r.b[r.at:])
	r.at += n
	return err == api.OK
}

// word goes past a word; else it goes up to the byte that is wrong.
func (r *reader) word(w string) bool {
	for i := range len(w) {
		if !r.take(int(w[i])) {
			return false
		}
	}
	return true
}

// number goes past a number, as far as it goes; else it goes up to the byte that is wrong.
func (r *reader) number() bool {
	r.take('-')
	if !r.take('0') && !r.digits() {
		return false
	}
	if r.take('.') && !r.digits() {
		return false
	}
	if !r.take('e') && !r.take('E') {
		return true
	}
	if !r.take('+') {
		r.take('-')
	}
	return r.digits()
}

// digits goes past digits, and tells whether there is one.
func (r *reader) digits() bool {
	from := r.at
	for !r.atEnd() && isDigit(r.b[r.at]) {
		r.at++
	}
	return r.at > from
}

// isDigit tells whether a byte is a digit.
func isDigit(c byte) bool {
	return c >= '0' && c <= '9'
}

// beginsNumber tells whether a text that begins with this byte is a number.
func beginsNumber(c byte) bool {
	return c == '-' || isDigit(c)
}
