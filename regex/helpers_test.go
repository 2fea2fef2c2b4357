package regex_test

import (
	"fmt"
	"math/rand"
	"slices"
	"strings"
	"testing"
	"unicode/utf8"

	"lorgnette/api"
	"lorgnette/regex"
)

// endless stands for no most times.
const endless = -1

// The parts of trees that are all alike.
var (
	empty  = api.Regex{Kind: api.ReEmpty}
	some   = api.Regex{Kind: api.ReAny}
	begin  = api.Regex{Kind: api.ReBegin}
	end    = api.Regex{Kind: api.ReEnd}
	word   = api.Regex{Kind: api.ReWord}
	noWord = api.Regex{Kind: api.ReWord, Not: true}
)

func sign(r rune) api.Regex {
	return api.Regex{Kind: api.ReRune, Rune: int(r)}
}

func span(from, to rune) api.Regex {
	return api.Regex{Kind: api.ReRange, Rune: int(from), To: int(to)}
}

func class(letter rune) api.Regex {
	return api.Regex{Kind: api.ReClass, Rune: int(letter)}
}

func noClass(letter rune) api.Regex {
	return api.Regex{Kind: api.ReClass, Rune: int(letter), Not: true}
}

func set(kids ...api.Regex) api.Regex {
	return api.Regex{Kind: api.ReSet, Kids: kids}
}

func noSet(kids ...api.Regex) api.Regex {
	return api.Regex{Kind: api.ReSet, Kids: kids, Not: true}
}

func seq(kids ...api.Regex) api.Regex {
	return api.Regex{Kind: api.ReSeq, Kids: kids}
}

func alt(kids ...api.Regex) api.Regex {
	return api.Regex{Kind: api.ReAlt, Kids: kids}
}

func repeat(kid api.Regex, least, most int) api.Regex {
	return api.Regex{Kind: api.ReRepeat, Kids: []api.Regex{kid}, Min: least, Max: most}
}

func lazy(kid api.Regex, least, most int) api.Regex {
	x := repeat(kid, least, most)
	x.Lazy = true
	return x
}

func group(number int, name string, kid api.Regex) api.Regex {
	return api.Regex{Kind: api.ReGroup, Kids: []api.Regex{kid}, Group: number, Name: name}
}

// signs are a row of signs.
func signs(s string) api.Regex {
	var kids []api.Regex
	for _, r := range s {
		kids = append(kids, sign(r))
	}
	return seq(kids...)
}

// answer is what Parse tells.
type answer struct {
	tree  api.Regex
	names []string
	at    int
	err   api.Errno
}

func (a answer) String() string {
	return fmt.Sprintf("%.600s, %q, %d, %d", fmt.Sprint(a.tree), a.names, a.at, a.err)
}

// same tells whether trees are alike in all of their fields: no kids are none, however they are held.
func same(a, b api.Regex) bool {
	alike := a.Kind == b.Kind && a.Rune == b.Rune && a.To == b.To && a.Min == b.Min && a.Max == b.Max
	alike = alike && a.Lazy == b.Lazy && a.Not == b.Not && a.Group == b.Group && a.Name == b.Name
	return alike && slices.EqualFunc(a.Kids, b.Kids, same)
}

func fault(at int, err api.Errno) answer {
	return answer{at: at, err: err}
}

// parsed is what Parse tells of a pattern.
func parsed(pattern string, free bool) answer {
	tree, names, at, err := regex.Parse(pattern, free)
	return answer{tree, names, at, err}
}

// given asks that a pattern is read as it should be.
func given(t *testing.T, pattern string, free bool, want answer) {
	t.Helper()
	got := parsed(pattern, free)
	if !same(got.tree, want.tree) || !slices.Equal(got.names, want.names) || got.at != want.at || got.err != want.err {
		t.Errorf("Parse(%.300q, %t): %v, not %v", pattern, free, got, want)
	}
}

// right asks for the tree of a pattern in which nothing is wrong, and the names of its groups.
func right(t *testing.T, pattern string, tree api.Regex, names ...string) {
	t.Helper()
	given(t, pattern, false, answer{tree, names, 0, api.OK})
}

// rightFree asks for the tree of a free pattern.
func rightFree(t *testing.T, pattern string, tree api.Regex, names ...string) {
	t.Helper()
	given(t, pattern, true, answer{tree, names, 0, api.OK})
}

// wrong asks for what is wrong with a pattern in which nothing stands that free patterns don't read as others do.
func wrong(t *testing.T, pattern string, at int, err api.Errno) {
	t.Helper()
	given(t, pattern, false, fault(at, err))
	given(t, pattern, true, fault(at, err))
}

// marked asks for the first sign with which nothing goes on, ahead of which a ~ stands; at the end, the pattern is too short.
func marked(t *testing.T, s string, free bool) {
	t.Helper()
	ahead, behind, ok := strings.Cut(s, "~")
	if !ok || strings.Contains(behind, "~") {
		t.Fatalf("%q: marks", s)
	}
	err := api.ErrForm
	if behind == "" {
		err = api.ErrShort
	}
	given(t, ahead+behind, free, fault(utf8.RuneCountInString(ahead), err))
}

// twin is a tree that shares nothing with the one it is made from.
func twin(x api.Regex) api.Regex {
	x.Kids = slices.Clone(x.Kids)
	for i, kid := range x.Kids {
		x.Kids[i] = twin(kid)
	}
	return x
}

// each goes through a tree.
func each(x api.Regex, do func(x api.Regex)) {
	do(x)
	for _, kid := range x.Kids {
		each(kid, do)
	}
}

// maker makes patterns, the same ones at each run.
type maker struct{ *rand.Rand }

func newMaker(seed int64) maker {
	return maker{rand.New(rand.NewSource(seed))}
}

func (m maker) one(l ...string) string {
	return l[m.Intn(len(l))]
}

// rows are all rows of some signs, up to so many.
func rows(all []string, most int, do func(row string)) {
	do("")
	if most == 0 {
		return
	}
	for _, s := range all {
		rows(all, most-1, func(row string) { do(s + row) })
	}
}
