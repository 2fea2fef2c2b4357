package emit_test

import (
	"math"
	"math/rand"
	"slices"
	"strings"
	"testing"

	"lorgnette/api"
	"lorgnette/emit"
	"lorgnette/sample"
)

// What the tests are written with.
var (
	num       = sample.Num
	text      = sample.Text
	arr       = sample.Arr
	obj       = sample.Obj
	field     = sample.Field
	literal   = sample.Of
	within    = sample.Within
	underKeys = sample.UnderKeys
	wrong     = sample.WrongWithin
	show      = sample.Show
	same      = sample.Same
	twin      = sample.Twin
	inOrder   = sample.InOrder
)

var null = api.Value{}

// lines, the styles of several lines; inLine, those of one.
var (
	inLine = []api.Style{{}, {Sort: true}, {Ascii: true}, {Sort: true, Ascii: true}, {Indent: -1}, {Indent: math.MinInt, Ascii: true}}
	lines  = []api.Style{
		{Indent: 1}, {Indent: 2}, {Indent: 7, Sort: true}, {Indent: 8, Ascii: true}, {Indent: 9}, {Indent: 1000, Sort: true, Ascii: true}, {Indent: math.MaxInt},
		{Tab: true}, {Tab: true, Sort: true}, {Tab: true, Indent: 3, Ascii: true}, {Tab: true, Indent: -5}, {Tab: true, Indent: math.MaxInt, Sort: true, Ascii: true},
	}
	styles = slices.Concat(inLine, lines)
)

// written holds the text of a value against what is wanted.
func written(t *testing.T, v api.Value, s api.Style, want string, wantErr api.Errno) {
	t.Helper()
	got, err := emit.Text(v, s)
	if got != want || err != wantErr {
		t.Errorf("Text of %s, %+v: %.300q, %d, not %.300q, %d", show(v), s, got, err, want, wantErr)
	}
}

// read holds what a text is read as against what is wanted.
func read(t *testing.T, b string, want api.Value, wantErr api.Errno) {
	t.Helper()
	got, err := emit.Parse([]byte(b))
	if !same(got, want) || err != wantErr {
		t.Errorf("Parse of %.300q: %s, %d, not %s, %d", b, show(got), err, show(want), wantErr)
	}
}

// copied holds what is handed on of a text against what is wanted.
func copied(t *testing.T, b string, s api.Style, want string, wantErr api.Errno) {
	t.Helper()
	wantSame := wantErr == api.OK && b == want
	got, is, err := emit.Copy([]byte(b), s)
	if got != want || is != wantSame || err != wantErr {
		t.Errorf("Copy of %.300q, %+v: %.300q, %v, %d, not %.300q, %v, %d", b, s, got, is, err, want, wantSame, wantErr)
	}
	if plain := emit.Plain([]byte(b), s); plain != wantSame {
		t.Errorf("Plain of %.300q, %+v: %v", b, s, plain)
	}
}

// maker makes values, the same at each run.
type maker struct{ chance *rand.Rand }

func newMaker(seed int64) maker {
	return maker{rand.New(rand.NewSource(seed))}
}

func (m maker) below(n int) int { return m.chance.Intn(n) }

func (m maker) style() api.Style { return styles[m.below(len(styles))] }

// someTexts are texts of all sorts, sound ones, by the order of their code points.
var someTexts = []string{"", "\x00", "\b\t\n\f\r\x1f", " ", "\"", "[1,2]", "\\", "a", "a,b: {\"c\"}", "aa", "b", "~", "\x7f", "\u0080", "é", "\ud7ff", "\ue000", "�", "\uffff", "\U00010000", "\U0001d11e", "\U0010ffff"}

var someNumbers = []string{"0", "1", "-1", "0.1", "-0.0000001", "1e-8", "12e19", "123456789012345678901", "1e21", "-1.25e300", "1e10000", "-1e-10000", "1000000007"}

// value is any that may be, at most so many levels deep.
func (m maker) value(levels int) api.Value {
	kind := m.below(9)
	if levels == 0 {
		kind = m.below(5)
	}
	switch kind {
	case api.Null, api.False, api.True:
		return api.Value{Kind: kind}
	case api.Number:
		return literal(someNumbers[m.below(len(someNumbers))])
	case api.Text:
		return text(someTexts[m.below(len(someTexts))])
	case api.Object, 8:
		v := obj()
		for _, at := range m.chance.Perm(len(someTexts))[:m.below(5)] {
			v.Obj = append(v.Obj, field(someTexts[at], m.value(levels-1)))
		}
		return v
	}
	v := arr()
	for range m.below(4) {
		v.Arr = append(v.Arr, m.value(levels-1))
	}
	return v
}

// arranged is a value as its text in a style tells it.
func arranged(v api.Value, s api.Style) api.Value {
	if s.Sort {
		return inOrder(v)
	}
	return v
}

// stepFor is a style's step, and whether it has lines.
func stepFor(s api.Style) (string, bool) {
	switch {
	case s.Tab:
		return "\t", true
	case s.Indent > 8:
		return "        ", true
	case s.Indent > 0:
		return strings.Repeat(" ", s.Indent), true
	}
	return "", false
}
