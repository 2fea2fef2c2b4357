package lex

import (
	"strings"

	"lorgnette/api"
	"lorgnette/quote"
)

// mark begins a text, and ends it.
const mark = '"'

// backslash begins a piece that stands for something else, or, with a ( behind, a filter.
const backslash = '\\'

const (
	begins      = `\(`
	beginsCoded = `\u`
)

// How many bytes a piece has that begins with a backslash, and with beginsCoded.
const (
	letteredSize = 2
	codedSize    = 6
)

// begin goes past the quote that begins a text.
func (l *lexer) begin() api.Errno {
	if l.texts == maxTexts {
		return api.ErrDepth
	}
	l.texts++
	l.push(text)
	l.put(api.TokOpen, l.at+1, l.at+1)
	return api.OK
}

// end goes past the quote that ends a text.
func (l *lexer) end() {
	l.texts--
	l.pop()
	l.put(api.TokShut, l.at+1, l.at+1)
}

// enter goes past the \( that begins a filter within a text.
func (l *lexer) enter() {
	l.push(filter)
	l.put(api.TokIn, l.at+len(begins), l.at+len(begins))
}

// pieces goes past a text's pieces, up to and past what ends them. At the end of all it leaves to who asks that the text isn't ended.
func (l *lexer) pieces() api.Errno {
	first := l.at
	var said strings.Builder
	lay := func() {
		if l.at > first {
			l.tokens = append(l.tokens, api.Token{Kind: api.TokText, Text: said.String(), At: first})
		}
	}
	for l.at < len(l.s) {
		switch rest := l.s[l.at:]; {
		case rest[0] == mark:
			lay()
			l.end()
			return api.OK
		case strings.HasPrefix(rest, begins):
			lay()
			l.enter()
			return api.OK
		case rest[0] == backslash:
			more, err := l.escaped()
			if err != api.OK {
				return err
			}
			said.WriteString(more)
		default:
			said.WriteByte(rest[0])
			l.at++
		}
	}
	return api.OK
}

// escaped goes past pieces that begin with a backslash, as many as stand in a row, since two of them may be one code point, and tells what they stand for; else it goes up to what is wrong.
func (l *lexer) escaped() (string, api.Errno) {
	end := escapedEnd(l.s, l.at)
	row := l.s[l.at:end]
	said, right, err := quote.Read([]byte(string(mark) + row + string(mark)))
	if err == api.OK {
		l.at = end
		return said, api.OK
	}
	right-- // the quote ahead of them
	if l.at+right >= len(l.s) {
		l.at = len(l.s)
		return "", api.ErrShort
	}
	l.at += strings.LastIndexByte(row[:right], backslash)
	return "", api.ErrForm
}

// escapedEnd is where pieces in a row end that begin with a backslash, if nothing is wrong with them.
func escapedEnd(s string, at int) int {
	for at < len(s) && s[at] == backslash && !strings.HasPrefix(s[at:], begins) {
		if strings.HasPrefix(s[at:], beginsCoded) {
			at += codedSize
		} else {
			at += letteredSize
		}
	}
	return min(at, len(s))
}
