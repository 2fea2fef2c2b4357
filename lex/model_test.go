package lex_test

import (
	"encoding/json"
	"fmt"
	"regexp"
	"strings"
	"unicode/utf8"

	"lorgnette/api"
)

// The document's lists, as they stand there.
const (
	listOfSigns = `//= |= += -= *= /= %= // == != <= >= .. . [ ] { } ( ) | , = < > + - * / % ? : ;`
	listOfWords = `and, as, break, catch, def, elif, else, end, foreach, if, label, or, reduce, then, try`
)

var (
	documentsSigns = strings.Fields(listOfSigns)
	documentsWords = strings.Split(listOfWords, ", ")
)

var (
	blanksForm  = regexp.MustCompile(`^(?:[ \t\n\r]|#[^\n]*)*`)
	nameForm    = regexp.MustCompile(`^[a-zA-Z_][a-zA-Z_0-9]*`)
	numberForm  = regexp.MustCompile(`^[0-9]+(?:\.[0-9]+)?(?:[eE][+-]?[0-9]+)?`)
	stretchForm = regexp.MustCompile(`^(?:[^"\\]|\\["\\/bfnrt]|\\u[0-9a-fA-F]{4})*`)
	beganForm   = regexp.MustCompile(`^\\(?:u[0-9a-fA-F]{0,3})?$`)
)

// fault is what ends a model's way.
type fault struct {
	at  int
	err api.Errno
}

// model goes through a filter's text by the document's words.
type model struct {
	s      string
	at     int
	tokens []api.Token
}

// modelOf is what Tokens should tell.
func modelOf(s string) (told answer) {
	if len(s) > 100000 {
		return answer{nil, 0, api.ErrSize}
	}
	for at := 0; at < len(s); {
		r, n := utf8.DecodeRuneInString(s[at:])
		if r == utf8.RuneError && n == 1 {
			return answer{nil, at, api.ErrBytes}
		}
		at += n
	}
	defer func() {
		if f, ok := recover().(fault); ok {
			told = answer{nil, f.at, f.err}
		}
	}()
	m := model{s: s}
	m.filter(0)
	return answer{m.tokens, 0, api.OK}
}

func (m *model) fail(err api.Errno) {
	panic(fault{m.at, err})
}

func (m *model) rest() string {
	return m.s[m.at:]
}

// take lays down a token that is the next bytes.
func (m *model) take(kind int, written, said string) {
	m.tokens = append(m.tokens, api.Token{Kind: kind, Text: said, At: m.at})
	m.at += len(written)
}

// filter goes past tokens: all of them or, within so many texts, up to the ) that has no ( of its own.
func (m *model) filter(texts int) {
	for rounds := 0; ; {
		m.at += len(blanksForm.FindString(m.rest()))
		rest := m.rest()
		switch {
		case rest == "" && texts > 0:
			m.fail(api.ErrShort)
		case rest == "":
			return
		case rest[0] == '"' && texts >= 50: // it would stand in 50 others
			m.fail(api.ErrDepth)
		case rest[0] == '"':
			m.text(texts)
			continue
		case rest[0] == ')' && rounds == 0 && texts > 0:
			return
		case rest[0] == ')' && rounds > 0:
			rounds--
		case rest[0] == '(':
			rounds++
		}
		m.plain()
	}
}

// plain goes past one token outside texts.
func (m *model) plain() {
	rest := m.rest()
	named := nameForm.FindString(rest[1:])
	switch {
	case numberForm.MatchString(rest):
		literal := numberForm.FindString(rest)
		m.take(api.TokNumber, literal, literal)
	case nameForm.MatchString(rest):
		itself := nameForm.FindString(rest)
		m.take(api.TokName, itself, itself)
	case rest[0] == '.' && named != "":
		m.take(api.TokField, "."+named, named)
	case rest[0] == '$' && named != "":
		m.take(api.TokVar, "$"+named, named)
	case rest[0] == '@' && named != "":
		m.take(api.TokFormat, "@"+named, "@"+named)
	case longestSign(rest) != "":
		m.take(api.TokOp, longestSign(rest), longestSign(rest))
	default:
		m.fail(api.ErrForm)
	}
}

func longestSign(rest string) string {
	longest := ""
	for _, sign := range documentsSigns {
		if strings.HasPrefix(rest, sign) && len(sign) > len(longest) {
			longest = sign
		}
	}
	return longest
}

// text goes past a text that stands in so many others.
func (m *model) text(others int) {
	m.take(api.TokOpen, `"`, "")
	for {
		stretch := stretchForm.FindString(m.rest())
		if stretch != "" {
			m.take(api.TokText, stretch, stoodFor(stretch))
		}
		rest := m.rest()
		switch {
		case strings.HasPrefix(rest, `"`):
			m.take(api.TokShut, `"`, "")
			return
		case strings.HasPrefix(rest, `\(`):
			m.take(api.TokIn, `\(`, "")
			m.filter(others + 1)
			m.take(api.TokOut, ")", "")
		case rest == "" || beganForm.MatchString(rest):
			m.at = len(m.s)
			m.fail(api.ErrShort)
		default:
			m.fail(api.ErrForm)
		}
	}
}

// stoodFor is what pieces stand for, by the library's reader.
func stoodFor(stretch string) string {
	var quoted strings.Builder
	for _, r := range stretch {
		if r < 32 {
			fmt.Fprintf(&quoted, `\u%04x`, r)
		} else {
			quoted.WriteRune(r)
		}
	}
	var s string
	if err := json.Unmarshal([]byte(`"`+quoted.String()+`"`), &s); err != nil {
		panic(stretch)
	}
	return s
}
