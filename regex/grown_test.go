package regex_test

import (
	"slices"
	"strconv"
	"strings"
	"testing"

	"lorgnette/api"
)

// grower makes trees that patterns have, with their groups' names.
type grower struct {
	maker
	room  int
	names []string
}

// tree is a tree of some room parts.
func (m maker) tree(room int) (api.Regex, []string) {
	g := grower{m, room, nil}
	return g.grow(0), g.names
}

// plain are signs that mean nothing, or something in sets, behind a backslash, or in free patterns alone.
var plain = []rune("abdnBW019_-,:<>=!é𝄞\ufffd\x00\x7f #\n\t\r")

// other are signs that have a backslash ahead.
var other = []rune(`*+?{}()[]|\^$.`)

func (g *grower) sign() rune {
	l := plain
	if g.Intn(3) == 0 {
		l = other
	}
	return l[g.Intn(len(l))]
}

// class is a class, or what it isn't.
func (g *grower) class() api.Regex {
	return api.Regex{Kind: api.ReClass, Rune: int("dws"[g.Intn(3)]), Not: g.Intn(2) == 0}
}

func (g *grower) grow(within int) api.Regex {
	g.room--
	if g.room <= 0 || g.Intn(4) == 0 || within > 40 {
		return g.leaf()
	}
	switch g.Intn(6) {
	case 0:
		return alt(g.kids(within)...)
	case 1, 2:
		return seq(g.kids(within)...)
	case 3:
		least := g.Intn(2) * g.Intn(256)
		bounds := [][2]int{{0, -1}, {1, -1}, {0, 1}, {least, least}, {least, -1}, {least, least + g.Intn(256-least)}}[g.Intn(6)]
		return api.Regex{Kind: api.ReRepeat, Kids: []api.Regex{g.grow(within + 1)}, Min: bounds[0], Max: bounds[1], Lazy: g.Intn(2) == 0}
	}
	name := ""
	if g.Intn(2) == 0 {
		name = g.one("x", "_", "Zz9") + strconv.Itoa(len(g.names))
	}
	g.names = append(g.names, name)
	number := len(g.names)
	return group(number, name, g.grow(within+1))
}

// kids are two parts or more.
func (g *grower) kids(within int) []api.Regex {
	var l []api.Regex
	for range 2 + g.Intn(3) {
		l = append(l, g.grow(within+1))
	}
	return l
}

// leaf is a part without others.
func (g *grower) leaf() api.Regex {
	switch g.Intn(9) {
	case 0:
		return empty
	case 1:
		return []api.Regex{some, begin, end, word, noWord}[g.Intn(5)]
	case 2:
		return g.class()
	case 3, 4:
		return g.set()
	}
	return sign(g.sign())
}

func (g *grower) set() api.Regex {
	x := api.Regex{Kind: api.ReSet, Not: g.Intn(2) == 0}
	for range 1 + g.Intn(4) {
		from, to := g.sign(), g.sign()
		switch g.Intn(4) {
		case 0:
			x.Kids = append(x.Kids, g.class())
		case 1:
			x.Kids = append(x.Kids, span(min(from, to), max(from, to)))
		default:
			x.Kids = append(x.Kids, sign(from))
		}
	}
	return x
}

// speller writes trees as patterns: a list of what stands between two places at which blanks may.
type speller struct {
	maker
	free bool
	l    []string
}

func (s *speller) put(l ...string) {
	s.l = append(s.l, l...)
}

// spell writes a tree: within tells which kind of part it stands in.
func (s *speller) spell(x api.Regex, within int) {
	bare, isListed := map[int]bool{
		api.ReAlt:    within == api.ReGroup,
		api.ReSeq:    within == api.ReGroup || within == api.ReAlt,
		api.ReEmpty:  within == api.ReGroup || within == api.ReAlt,
		api.ReRepeat: within != api.ReRepeat,
	}[x.Kind]
	if isListed && !bare || s.Intn(8) == 0 {
		s.put("(?:")
		s.spell(x, api.ReGroup)
		s.put(")")
		return
	}
	switch x.Kind {
	case api.ReAlt, api.ReSeq:
		for i, kid := range x.Kids {
			if i > 0 && x.Kind == api.ReAlt {
				s.put("|")
			}
			s.spell(kid, x.Kind)
		}
	case api.ReRepeat:
		s.spell(x.Kids[0], api.ReRepeat)
		s.put(s.times(x.Min, x.Max))
		if x.Lazy {
			s.put("?")
		}
	case api.ReGroup:
		if x.Name != "" {
			s.put("(?<" + x.Name + ">")
		} else {
			s.put("(")
		}
		s.spell(x.Kids[0], api.ReGroup)
		s.put(")")
	default:
		s.put(s.atom(x))
	}
}

// times writes how often a part is repeated, in any way there is.
func (s *speller) times(least, most int) string {
	var l []string
	switch {
	case least == 0 && most == -1:
		l = append(l, "*", "{0,}")
	case least == 1 && most == -1:
		l = append(l, "+", "{1,}", "{001,}")
	case least == 0 && most == 1:
		l = append(l, "?", "{0,1}", "{00,01}")
	}
	if most == -1 {
		l = append(l, "{"+strconv.Itoa(least)+",}")
	} else {
		l = append(l, "{"+strconv.Itoa(least)+","+strconv.Itoa(most)+"}")
	}
	if least == most {
		l = append(l, "{"+strconv.Itoa(least)+"}")
	}
	return s.one(l...)
}

// atom writes a part without others.
func (s *speller) atom(x api.Regex) string {
	switch x.Kind {
	case api.ReEmpty:
		return ""
	case api.ReAny:
		return "."
	case api.ReBegin:
		return "^"
	case api.ReEnd:
		return "$"
	case api.ReClass:
		return lettered(string(rune(x.Rune)), x.Not)
	case api.ReWord:
		return lettered("b", x.Not)
	case api.ReSet:
		return s.set(x)
	}
	return s.sign(rune(x.Rune), string(other), s.free)
}

func lettered(letter string, not bool) string {
	if not {
		letter = strings.ToUpper(letter)
	}
	return `\` + letter
}

// sign writes a sign: with a backslash ahead, where it must or may have one.
func (s *speller) sign(r rune, must string, free bool) string {
	i := strings.IndexRune("\n\t\r", r)
	switch {
	case i >= 0 && (free || s.Intn(2) == 0):
		return `\` + "ntr"[i:i+1]
	case strings.ContainsRune(must, r), r == '#' && free, isMark(r) && s.Intn(3) == 0:
		return `\` + string(r)
	}
	return string(r)
}

// set writes a set. Within, a - is written with a backslash, but at the end, where it may be alone.
func (s *speller) set(x api.Regex) string {
	text := "["
	if x.Not {
		text = "[^"
	}
	for i, item := range x.Kids {
		switch {
		case item.Kind == api.ReClass:
			text += s.atom(item)
		case item.Kind == api.ReRune && item.Rune == '-' && i == len(x.Kids)-1 && s.Intn(2) == 0:
			text += "-"
		case item.Kind == api.ReRune:
			text += s.sign(rune(item.Rune), `[]\^-`, false)
		default:
			text += s.sign(rune(item.Rune), `[]\^-`, false) + "-" + s.sign(rune(item.To), `[]\`, false)
		}
	}
	return text + "]"
}

// spelt is a pattern of a tree.
func (m maker) spelt(x api.Regex, free bool) []string {
	s := speller{m, free, nil}
	s.spell(x, api.ReGroup)
	return s.l
}

// blank is what free patterns don't see.
func (m maker) blank() string {
	return m.one("", "", " ", "\t", "\n", "\r", "  ", "#\n", "# a(b\n", "#[\\\n \n", " # *é#\n\t")
}

// unblank takes from a tree that is to be written freely the blanks outside of sets, which have no spelling of their own there.
func unblank(x api.Regex) api.Regex {
	if x.Kind == api.ReRune && x.Rune == ' ' {
		return sign('#')
	}
	if x.Kind != api.ReSet {
		x.Kids = slices.Clone(x.Kids)
		for i, kid := range x.Kids {
			x.Kids[i] = unblank(kid)
		}
	}
	return x
}

// TestGrown writes trees as patterns, and reads them back.
func TestGrown(t *testing.T) {
	t.Parallel()
	m := newMaker(2)
	asked := 0
	for i := range 6000 {
		x, names := m.tree(1 + i%60)
		s := strings.Join(m.spelt(x, false), "")
		if len([]rune(s)) <= 1000 {
			asked++
			given(t, s, false, answer{x, names, 0, api.OK})
		}
		x = unblank(x)
		s = m.blank()
		for _, part := range m.spelt(x, true) {
			s += part + m.blank()
		}
		if s += m.one("", "#", "# (*"); len([]rune(s)) <= 1000 {
			asked++
			given(t, s, true, answer{x, names, 0, api.OK})
		}
	}
	if asked < 10000 {
		t.Error("only", asked)
	}
}

// spoilt is a pattern in which something was taken away, put in, or doubled, or which is cut off.
func (m maker) spoilt(s string) string {
	signs := []rune(s)
	at := m.Intn(len(signs) + 1)
	end := min(at+1+m.Intn(2), len(signs))
	switch m.Intn(5) {
	case 0:
		return string(signs[:at])
	case 1:
		return string(signs[:at]) + string(signs[end:])
	case 2:
		return string(signs[:end]) + string(signs[at:])
	case 3:
		return string(signs[:at]) + m.one("\xff", "é", "(?:", "(?<x>", "[^", "a-", `\`, `\d`, "{1,2}", "{300", "#", " ", "\n") + string(signs[at:])
	}
	return string(signs[:at]) + m.one(alphabet...) + string(signs[at:])
}

// TestSpoilt holds what is told of patterns with which something may be wrong against the model.
func TestSpoilt(t *testing.T) {
	t.Parallel()
	m := newMaker(3)
	ends := map[int]int{}
	for i := range 6000 {
		x, _ := m.tree(1 + i%40)
		s := strings.Join(m.spelt(x, i%2 == 0), m.one("", "", " ", "#\n"))
		against(t, s, ends)
		for range 1 + m.Intn(3) {
			s = m.spoilt(s)
			against(t, s, ends)
		}
	}
	if ends[0] < 8000 || ends[2] < 8000 || ends[5] < 3000 {
		t.Error("too few:", ends)
	}
}

// TestNonsense holds what is told of rows of anything against the model.
func TestNonsense(t *testing.T) {
	t.Parallel()
	m := newMaker(4)
	ends := map[int]int{}
	for range 25000 {
		var s strings.Builder
		for range m.Intn(12) {
			s.WriteString(m.one(alphabet...))
			if m.Intn(4) == 0 {
				s.WriteString(m.one("a*", "(?:", "(?<a>", ")", "[a-", "]", `\d`, `\`, "{2,", "}", " ", "#", "\n", "\xff", "𝄞", "(", strings.Repeat("(", 49)))
			}
		}
		against(t, s.String(), ends)
	}
	if len(ends) < 4 {
		t.Error("too few:", ends)
	}
}
