package dec

import (
	"lorgnette/api"
	"lorgnette/limb"
)

// maxText is how many bytes a number's text has at most.
const maxText = 1000

// farPower is a power of ten so great that the digits of no text that may be make up for it: beyond it, powers are all the same.
const farPower = api.MaxShift

// States of a number's text: what was read last.
const (
	wrong = iota
	start
	minus
	nought // a 0 ahead of all: no digit follows it
	whole
	point
	fraction
	powerMark
	powerSign
	power
)

// literal is what a number's text says.
type literal struct {
	neg    bool
	digits []byte // of the whole part and of the fraction
	behind int    // how many of them stand behind the point
	down   bool   // the power is below 0
	power  int    // without its sign
}

// Parse reads a literal.
func Parse(s string) (api.Dec, api.Errno) {
	l, ok := read(s)
	if !ok {
		return api.Dec{}, api.ErrForm
	}
	if len(s) > maxText {
		return api.Dec{}, api.ErrRange
	}
	exp := l.power
	if l.down {
		exp = -exp
	}
	limbs, _ := limb.Parse(string(l.digits)) // one digit at least, and nothing else: it is read
	return tell(l.neg, limbs, exp-l.behind)
}

// read goes through a number's text; false: it isn't one.
func read(s string) (literal, bool) {
	var l literal
	state := start
	for _, sign := range s {
		state = after(state, sign)
		switch state {
		case wrong:
			return literal{}, false
		case minus:
			l.neg = true
		case nought, whole:
			l.digits = append(l.digits, byte(sign))
		case fraction:
			l.digits = append(l.digits, byte(sign))
			l.behind++
		case powerSign:
			l.down = sign == '-'
		case power:
			l.power = min(10*l.power+int(sign-'0'), farPower)
		}
	}
	return l, mayEnd(state)
}

// after is the state that a sign leads to.
func after(state int, sign rune) int {
	switch {
	case sign == '-' && state == start:
		return minus
	case sign == '0' && (state == start || state == minus):
		return nought
	case sign >= '0' && sign <= '9':
		return afterDigit(state)
	case sign == '.' && (state == nought || state == whole):
		return point
	case (sign == 'e' || sign == 'E') && (state == nought || state == whole || state == fraction):
		return powerMark
	case (sign == '+' || sign == '-') && state == powerMark:
		return powerSign
	}
	return wrong
}

// afterDigit is the state that a digit leads to, but for a 0 ahead of all.
func afterDigit(state int) int {
	switch state {
	case start, minus, whole:
		return whole
	case point, fraction:
		return fraction
	case powerMark, powerSign, power:
		return power
	}
	return wrong
}

// mayEnd tells whether a number is whole in that state.
func mayEnd(state int) bool {
	return state == nought || state == whole || state == fraction || state == power
}
