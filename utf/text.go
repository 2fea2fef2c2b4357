package utf

import (
	"cmp"

	"lorgnette/api"
)

// Texts are gone through by ranges over strings: the language tells of each byte that no code point's bytes begin with what Decode tells of it.

// Valid tells how far a text is sound.
func Valid(b string) int {
	for at, r := range b {
		if r != replacement {
			continue
		}
		if _, _, sound := Decode(b[at:]); !sound { // the replacement may stand there itself
			return at
		}
	}
	return len(b)
}

// Clean makes a text sound.
func Clean(b string) string {
	clean := make([]byte, 0, len(b))
	for _, r := range b {
		clean = put(clean, int(r))
	}
	return string(clean)
}

// Explode is a text's code points.
func Explode(b string) []int {
	var l []int
	for _, r := range b {
		l = append(l, int(r))
	}
	return l
}

// Implode is the text of code points.
func Implode(l []int) (string, api.Errno) {
	b := make([]byte, 0, len(l))
	for _, p := range l {
		if !isPoint(p) {
			return "", api.ErrArg
		}
		b = put(b, p)
	}
	return string(b), api.OK
}

// Cmp holds texts against each other by their code points.
func Cmp(a, b string) int {
	rest := b
	for _, r := range a {
		p, n, _ := Decode(rest)
		if n == 0 {
			return 1
		}
		if order := cmp.Compare(int(r), p); order != 0 {
			return order
		}
		rest = rest[n:]
	}
	return cmp.Compare(0, len(rest))
}

// Slice is a part of a text.
func Slice(b string, from, to int) string {
	var part []byte
	at := 0
	for _, r := range b {
		if at >= to {
			break
		}
		if at >= from {
			part = put(part, int(r))
		}
		at++
	}
	return string(part)
}
