package quote

import (
	"lorgnette/api"
	"lorgnette/utf"
)

// Read reads a text in quotes.
func Read(b []byte) (string, int, api.Errno) {
	r := reader{b: b}
	var s []byte // not as long as b from the start: the text may be a small part of it
	for p := range r.points {
		s = putPoint(s, p)
	}
	if r.err != api.OK {
		return "", r.at, r.err
	}
	return string(s), r.at, api.OK
}

// putPoint lays a code point's bytes behind others.
func putPoint(s []byte, p int) []byte {
	if p <= lastSmall {
		return append(s, byte(p))
	}
	more, _ := utf.Encode(p) // the reader tells code points alone
	return append(s, more...)
}

// Plain tells whether a text is written as Quote does.
func Plain(b []byte) bool {
	s, _, err := Read(b)
	return err == api.OK && Quote(s) == string(b)
}

// Is tells whether a text in quotes stands for a key.
func Is(b []byte, key string) bool {
	r := reader{b: b}
	rest := key
	for p := range r.points {
		q, n, sound := utf.Decode(rest)
		if !sound || q != p { // where the key isn't sound, no piece stands for it, not even that of 65533
			return false
		}
		rest = rest[n:]
	}
	return rest == "" && r.err == api.OK && r.at == len(b)
}
