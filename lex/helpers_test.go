package lex_test

import (
	"fmt"
	"math/rand"
	"slices"
	"strings"
	"testing"

	"lorgnette/api"
	"lorgnette/lex"
)

func token(kind int) func(at int, s string) api.Token {
	return func(at int, s string) api.Token {
		return api.Token{Kind: kind, Text: s, At: at}
	}
}

func mark(kind int) func(at int) api.Token {
	return func(at int) api.Token {
		return api.Token{Kind: kind, At: at}
	}
}

// The tokens, each with where it begins.
var (
	number = token(api.TokNumber)
	name   = token(api.TokName)
	field  = token(api.TokField)
	vari   = token(api.TokVar)
	format = token(api.TokFormat)
	op     = token(api.TokOp)
	text   = token(api.TokText)
	open   = mark(api.TokOpen)
	in     = mark(api.TokIn)
	out    = mark(api.TokOut)
	shut   = mark(api.TokShut)
)

func tokens(l ...api.Token) []api.Token {
	return l
}

// answer is what Tokens tells.
type answer struct {
	tokens []api.Token
	at     int
	err    api.Errno
}

func show(a answer) string {
	return fmt.Sprintf("%v, %d, %d", a.tokens, a.at, a.err)
}

// given asks that the tokens of a text are told as they should be.
func given(t *testing.T, s string, want answer) {
	t.Helper()
	l, at, err := lex.Tokens(s)
	if got := (answer{l, at, err}); !slices.Equal(l, want.tokens) || at != want.at || err != want.err {
		t.Errorf("Tokens(%.300q): %.300s, not %.300s", s, show(got), show(want))
	}
}

// right asks for the tokens of a text in which nothing is wrong.
func right(t *testing.T, s string, want ...api.Token) {
	t.Helper()
	given(t, s, answer{want, 0, api.OK})
}

// wrong asks for what is wrong with a text.
func wrong(t *testing.T, s string, at int, err api.Errno) {
	t.Helper()
	given(t, s, answer{nil, at, err})
}

// unplaced are tokens without where they begin.
func unplaced(l []api.Token) []api.Token {
	l = slices.Clone(l)
	for i := range l {
		l[i].At = 0
	}
	return l
}

// partsOutside are what filters' texts are put together of outside of texts, right and wrong.
var partsOutside = append(slices.Clone(documentsSigns), "a", "_", "Z9", "if", "e", "E", "0", "12", "1.5", "1e3", "2E-7", "3.0e+01", ".a", ".if", "$x", "$__loc__", "@csv", "$", "@", "!", "&", "~", "^", "'", "`", `\`, "\\(", "# note\n", "#", " ", "\t", "\n", "\r", "\f", "\v", "\x00", "\x7f", "ä", "€", "𝄞", `"`, `""`, `"b"`, `"\(`)

// partsOfTexts are what their texts are put together of.
var partsOfTexts = []string{`"`, `\(`, `)`, `(`, "a", " ", "1", "#", "{", "ä", "€", "𝄞", "\x00", "\n", "\x1f", "\x7f", `\"`, `\\`, `\/`, `\b`, `\f`, `\n`, `\r`, `\t`, `\u0041`, `\u00E4`, `\u20ac`, `\ud834`, `\uDD1E`, `\ud834\udd1e`, `\u0000`, `\u0022`, `\u005c`, `\uffff`, `\`, `\u`, `\u1`, `\u12`, `\u12a`, `\u12g4`, `\uä`, `\x`, `\U0041`, `\0`, `\'`}

// maker makes texts of filters, the same ones at each run.
type maker struct{ *rand.Rand }

func newMaker(seed int64) maker {
	return maker{rand.New(rand.NewSource(seed))}
}

func (m maker) one(parts []string) string {
	return parts[m.Intn(len(parts))]
}

// row is parts in a row, of any kind: most often something is wrong with them.
func (m maker) row(parts []string, most int) string {
	var s strings.Builder
	for range m.Intn(most + 1) {
		s.WriteString(m.one(parts))
	}
	return s.String()
}

// pieces are what is right within texts.
var pieces = slices.DeleteFunc(slices.Clone(partsOfTexts), func(part string) bool {
	wrong := []string{`"`, `\(`, `\`, `\u`, `\u1`, `\u12`, `\u12a`, `\u12g4`, `\uä`, `\x`, `\U0041`, `\0`, `\'`}
	return slices.Contains(wrong, part)
})

// spells are the tokens outside texts, as they are written.
var spells = slices.DeleteFunc(append(slices.Clone(documentsSigns), "a", "_b1", "Z9", "if", "0", "12", "1.5", "1e3", "2E-7", "3.0e+01", ".a", ".if", "$x", "$if", "@csv"), func(sign string) bool {
	return sign == "(" || sign == ")"
})

// spelt is a filter's text, token by token, in which nothing is wrong: a list of what stands between two of its places at which blanks may stand.
func (m maker) spelt(deep int) []string {
	var l []string
	for range m.Intn(6) {
		switch kind := m.Intn(8); {
		case kind == 0 && deep > 0:
			l = slices.Concat(l, []string{"("}, m.spelt(deep-1), []string{")"})
		case kind <= 2 && deep > 0:
			l = append(l, m.speltText(deep-1)...)
		default:
			l = append(l, m.one(spells))
		}
	}
	return l
}

// speltText is a text, cut where tokens stand within it.
func (m maker) speltText(deep int) []string {
	last := `"` + m.row(pieces, 3)
	var l []string
	for range m.Intn(3) {
		l = append(l, last+`\(`)
		l = append(l, m.spelt(deep)...)
		last = ")" + m.row(pieces, 3)
	}
	return append(l, last+`"`)
}

// spoilt is a text of which a byte was taken away, put in, or doubled, or which is cut off.
func (m maker) spoilt(s string) string {
	if s == "" {
		return m.one(partsOutside)
	}
	at := m.Intn(len(s))
	switch m.Intn(5) {
	case 0:
		return s[:at]
	case 1:
		return s[:at] + s[at+1:]
	case 2:
		return s[:at] + s[at:at+1] + s[at:]
	case 3:
		return s[:at] + m.one(partsOutside) + s[at:]
	}
	return s[:at] + m.one(partsOfTexts) + s[at:]
}
