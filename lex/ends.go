package lex

import (
	"strings"
)

// blanksEnd is where the blanks and notes end that stand at a place, if any do.
func blanksEnd(s string, at int) int {
blanks:
	for at < len(s) {
		switch s[at] {
		case ' ', '\t', '\n', '\r':
			at++
		case '#':
			at = noteEnd(s, at)
		default:
			break blanks
		}
	}
	return at
}

// noteEnd is where the note ends that begins at a place.
func noteEnd(s string, at int) int {
	if size := strings.IndexByte(s[at:], '\n'); size >= 0 {
		return at + size
	}
	return len(s)
}

// nameEnd is where the name ends that begins at a place; that place itself, if none does.
func nameEnd(s string, at int) int {
	if at >= len(s) || !isLetter(s[at]) {
		return at
	}
	for at < len(s) && (isLetter(s[at]) || isDigit(s[at])) {
		at++
	}
	return at
}

// numberEnd is where the number ends that begins at a place.
func numberEnd(s string, at int) int {
	at = digitsEnd(s, at)
	if at < len(s) && s[at] == '.' {
		at = digitsBehind(s, at, at+1)
	}
	if at < len(s) && (s[at] == 'e' || s[at] == 'E') {
		at = digitsBehind(s, at, signEnd(s, at+1))
	}
	return at
}

// digitsBehind is where the digits end that begin at from; if there are none, the number goes no further than to at.
func digitsBehind(s string, at, from int) int {
	if end := digitsEnd(s, from); end > from {
		return end
	}
	return at
}

// digitsEnd is where the digits end that stand at a place, if any do.
func digitsEnd(s string, at int) int {
	for at < len(s) && isDigit(s[at]) {
		at++
	}
	return at
}

// signEnd is where the + or - ends that stands at a place, if one does.
func signEnd(s string, at int) int {
	if at < len(s) && (s[at] == '+' || s[at] == '-') {
		at++
	}
	return at
}

// signOf is the sign that a text begins with; nothing, if it begins with none.
func signOf(s string) string {
tries:
	for _, sign := range signs {
		for i := range len(sign) {
			if i == len(s) || s[i] != sign[i] {
				continue tries
			}
		}
		return sign
	}
	return ""
}

// isLetter tells whether a name may begin with a byte.
func isLetter(c byte) bool {
	return c >= 'a' && c <= 'z' || c >= 'A' && c <= 'Z' || c == '_'
}

func isDigit(c byte) bool {
	return c >= '0' && c <= '9'
}
