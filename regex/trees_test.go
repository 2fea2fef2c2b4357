package regex_test

import (
	"strings"
	"testing"

	"lorgnette/api"
	"lorgnette/regex"
)

// TestExamples are the document's.
func TestExamples(t *testing.T) {
	right(t, "a|b*", alt(sign('a'), repeat(sign('b'), 0, endless)))
	right(t, `(?<x>.)\d{2}`, seq(group(1, "x", some), repeat(class('d'), 2, 2)), "x")
	wrong(t, "a**", 2, api.ErrForm)
	wrong(t, "[a", 2, api.ErrShort)
	wrong(t, "[b-a]", 3, api.ErrForm)
}

// TestAlternatives asks for what | and nothing stand for.
func TestAlternatives(t *testing.T) {
	a, b, c := sign('a'), sign('b'), sign('c')
	for s, want := range map[string]api.Regex{
		"": empty, "a": a, "ab": seq(a, b), "abc": seq(a, b, c), "a|b": alt(a, b), "a|b|c": alt(a, b, c), "ab|c": alt(seq(a, b), c), "a|bc": alt(a, seq(b, c)), "|": alt(empty, empty), "a|": alt(a, empty), "|a": alt(empty, a), "||": alt(empty, empty, empty), "a||b": alt(a, empty, b), "aa": seq(a, a), "a|a": alt(a, a),
	} {
		right(t, s, want)
		rightFree(t, s, want)
	}
}

// TestSigns asks for signs that stand for themselves, and those that don't.
func TestSigns(t *testing.T) {
	for r := rune(0); r < 1200; r++ {
		switch {
		case strings.ContainsRune("*+?{})]", r):
			wrong(t, string(r), 0, api.ErrForm)
			wrong(t, "a|"+string(r)+"b", 2, api.ErrForm)
		case strings.ContainsRune(`([\`, r):
			wrong(t, string(r), 1, api.ErrShort)
		case !strings.ContainsRune(".^$|", r):
			right(t, string(r), sign(r))
			right(t, "a"+string(r)+"b", seq(sign('a'), sign(r), sign('b')))
		}
	}
	for _, r := range []rune{'é', '€', '𝄞', 55295, 57344, 65533, 65535, 65536, 1114111} {
		right(t, string(r), sign(r))
		rightFree(t, string(r)+"+", repeat(sign(r), 1, endless))
	}
	right(t, ".^$", seq(some, begin, end))
	right(t, "a-b,c:<d>=!#&'\"/;@_`~ e\n\t\r", signs("a-b,c:<d>=!#&'\"/;@_`~ e\n\t\r"))
	right(t, "\xffa\xe2\x82", seq(sign(65533), sign('a'), sign(65533), sign(65533)))
	right(t, "[\xff-\xff]", set(span(65533, 65533)))
	wrong(t, "\xff\xf0\x9f*)", 4, api.ErrForm)
}

// TestEscapes asks for each sign behind a backslash, outside sets and within.
func TestEscapes(t *testing.T) {
	outside := map[rune]api.Regex{'d': class('d'), 'D': noClass('d'), 'w': class('w'), 'W': noClass('w'), 's': class('s'), 'S': noClass('s'), 'b': word, 'B': noWord, 'n': sign(10), 't': sign(9), 'r': sign(13)}
	for _, r := range "!\"#$%&'()*+,-./:;<=>?@[\\]^_`{|}~" {
		outside[r] = sign(r)
	}
	for r := rune(0); r < 300; r++ {
		want, ok := outside[r]
		s := `\` + string(r)
		if !ok {
			wrong(t, s, 1, api.ErrForm)
			wrong(t, "[a"+s+"]", 3, api.ErrForm)
			wrong(t, "[!-"+s+"]", 4, api.ErrForm)
			continue
		}
		right(t, s, want)
		rightFree(t, "a"+s+"?b", seq(sign('a'), repeat(want, 0, 1), sign('b')))
		switch want.Kind {
		case api.ReRune:
			right(t, "["+s+"]", set(want))
			right(t, "["+s+"-ÿ]", set(span(rune(want.Rune), 'ÿ')))
			right(t, "[\x00-"+s+"]", set(span(0, rune(want.Rune))))
			right(t, "["+s+s+"-"+s+"]", set(want, span(rune(want.Rune), rune(want.Rune))))
		case api.ReClass:
			right(t, "["+s+"]", set(want))
			right(t, "[^a"+s+"-z]", noSet(sign('a'), want, sign('-'), sign('z')))
			wrong(t, "[\x00-"+s+"]", 4, api.ErrForm)
		default:
			wrong(t, "["+s+"]", 2, api.ErrForm)
			wrong(t, "[\x00-"+s+"]", 4, api.ErrForm)
		}
	}
	for _, r := range []rune{'é', '€', '𝄞', 65533} {
		wrong(t, `\`+string(r), 1, api.ErrForm)
		wrong(t, `[\`+string(r), 2, api.ErrForm)
	}
}

// TestSets asks for what stands in sets.
func TestSets(t *testing.T) {
	a, b, c, dash := sign('a'), sign('b'), sign('c'), sign('-')
	for s, want := range map[string]api.Regex{
		"[a]": set(a), "[abc]": set(a, b, c), "[aa]": set(a, a), "[^a]": noSet(a), "[^^]": noSet(sign('^')), "[a^]": set(a, sign('^')), "[^a^]": noSet(a, sign('^')), `[\^]`: set(sign('^')), "[.$|(){}*+?]": set(signs(".$|(){}*+?").Kids...), "[(?<x>a)]": set(signs("(?<x>a)").Kids...), "[ #\n]": set(sign(' '), sign('#'), sign(10)), "[é𝄞]": set(sign('é'), sign('𝄞')), `[\[\]\\]`: set(sign('['), sign(']'), sign('\\')), `[\n\t\r]`: set(sign(10), sign(9), sign(13)), `[\d]`: set(class('d')), `[^\D\W\S\w\s]`: noSet(noClass('d'), noClass('w'), noClass('s'), class('w'), class('s')),
		"[a-c]": set(span('a', 'c')), "[a-a]": set(span('a', 'a')), "[a-cb]": set(span('a', 'c'), b), "[ba-c]": set(b, span('a', 'c')), "[a-bb-c]": set(span('a', 'b'), span('b', 'c')), "[^a-c]": noSet(span('a', 'c')), `[\n-\r]`: set(span(10, 13)), `[!-\-]`: set(span('!', '-')), `[\--\.]`: set(span('-', '.')), "[*-.]": set(span('*', '.')), "[^^-a]": noSet(span('^', 'a')), "[A-^]": set(span('A', '^')), "[\x00-\U0010ffff]": set(span(0, 1114111)), "[a-é]": set(span('a', 'é')), "[ -#]": set(span(' ', '#')),
		// A - behind an item's first sign, ahead of ], and elsewhere.
		"[-]": set(dash), "[^-]": noSet(dash), "[a-]": set(a, dash), "[-a]": set(dash, a), "[^-a]": noSet(dash, a), "[--]": set(dash, dash), "[---]": set(span('-', '-')), "[--a]": set(span('-', 'a')), "[^--a]": noSet(span('-', 'a')), "[!--]": set(span('!', '-')), "[----]": set(span('-', '-'), dash), "[-----]": set(span('-', '-'), dash, dash), "[------]": set(span('-', '-'), span('-', '-')), "[a-b-]": set(span('a', 'b'), dash), "[a-b-c]": set(span('a', 'b'), dash, c), "[a-b--]": set(span('a', 'b'), dash, dash), "[a-b--c]": set(span('a', 'b'), span('-', 'c')), `[\d-]`: set(class('d'), dash), `[\d-a]`: set(class('d'), dash, a), `[\d--a]`: set(class('d'), span('-', 'a')), `[-\d]`: set(dash, class('d')), `[a\-c]`: set(a, dash, c), `[\--]`: set(dash, dash), `[\]-]`: set(sign(']'), dash), `[\]-a]`: set(span(']', 'a')),
	} {
		right(t, s, want)
		rightFree(t, s, want)
		right(t, "a"+s+"+b", seq(a, repeat(want, 1, endless), b))
	}
}

// TestRepeats asks for how often parts are repeated.
func TestRepeats(t *testing.T) {
	a := sign('a')
	for s, want := range map[string][2]int{"*": {0, -1}, "+": {1, -1}, "?": {0, 1}, "{0}": {0, 0}, "{1}": {1, 1}, "{7,}": {7, -1}, "{0,}": {0, -1}, "{0,0}": {0, 0}, "{0,1}": {0, 1}, "{2,10}": {2, 10}, "{9,10}": {9, 10}, "{99,100}": {99, 100}, "{255}": {255, 255}, "{255,}": {255, -1}, "{255,255}": {255, 255}, "{0,255}": {0, 255}, "{007}": {7, 7}, "{00,010}": {0, 10}, "{000,000}": {0, 0}, "{1,001}": {1, 1}} {
		right(t, "a"+s, repeat(a, want[0], want[1]))
		right(t, "a"+s+"?", lazy(a, want[0], want[1]))
		rightFree(t, "aa"+s+"a", seq(a, repeat(a, want[0], want[1]), a))
		rightFree(t, "a"+s+"?|a", alt(lazy(a, want[0], want[1]), a))
		wrong(t, s, 0, api.ErrForm)
		wrong(t, "|"+s, 1, api.ErrForm)
		wrong(t, "(a|"+s+")", 3, api.ErrForm)
		for _, other := range []string{"*", "+", "{1}", "{2,}", "{2,3}"} {
			wrong(t, "a"+s+other, 1+len(s), api.ErrForm)
			wrong(t, "a"+s+"?"+other, 2+len(s), api.ErrForm)
		}
		wrong(t, "a"+s+"??", 2+len(s), api.ErrForm)
	}
	for s, atom := range map[string]api.Regex{".": some, "^": begin, "$": end, "[ab]": set(a, sign('b')), "[^a-b]": noSet(span('a', 'b')), `\d`: class('d'), `\W`: noClass('w'), `\b`: word, `\B`: noWord, `\n`: sign(10), `\*`: sign('*'), "(?:a)": a, "(?:ab)": signs("ab"), "(?:a|b)": alt(a, sign('b')), "(?:)": empty, "(?:a*)": repeat(a, 0, -1), "é": sign('é')} {
		right(t, s+"*", repeat(atom, 0, endless))
		right(t, s+"+?", lazy(atom, 1, endless))
		right(t, s+"{2,3}", repeat(atom, 2, 3))
	}
	right(t, "(a)*", repeat(group(1, "", a), 0, endless), "")
	right(t, "(?<x>a?){3}?", lazy(group(1, "x", repeat(a, 0, 1)), 3, 3), "x")
	right(t, "()??", lazy(group(1, "", empty), 0, 1), "")
	right(t, "(?:a{2}){3}", repeat(repeat(a, 2, 2), 3, 3))
	right(t, "ab*c+", seq(a, repeat(sign('b'), 0, endless), repeat(sign('c'), 1, endless)))
}

// TestGroups asks for groups, their numbers and names.
func TestGroups(t *testing.T) {
	a, b, c := sign('a'), sign('b'), sign('c')
	right(t, "()", group(1, "", empty), "")
	right(t, "(a)", group(1, "", a), "")
	right(t, "(ab)", group(1, "", seq(a, b)), "")
	right(t, "(a|b)", group(1, "", alt(a, b)), "")
	right(t, "(|)", group(1, "", alt(empty, empty)), "")
	right(t, "(a)(b)(c)", seq(group(1, "", a), group(2, "", b), group(3, "", c)), "", "", "")
	right(t, "((a)(b))(c)", seq(group(1, "", seq(group(2, "", a), group(3, "", b))), group(4, "", c)), "", "", "", "")
	right(t, "a|(b)|(?:(c))", alt(a, group(1, "", b), group(2, "", c)), "", "")
	right(t, "(?:)", empty)
	right(t, "(?:a)", a)
	right(t, "(?:ab)", signs("ab"))
	right(t, "(?:a|b)", alt(a, b))
	right(t, "(?:a|b)|c", alt(alt(a, b), c))
	right(t, "(?:ab)c", seq(signs("ab"), c))
	right(t, "c(?:)", seq(c, empty))
	right(t, "(?:a)b", seq(a, b))
	right(t, "(?:(?:(?:a)))", a)
	right(t, "(?:a|)(?:|b)", seq(alt(a, empty), alt(empty, b)))
	right(t, "(?<x>a)", group(1, "x", a), "x")
	right(t, "(?<x>)", group(1, "x", empty), "x")
	right(t, "(?<x>a|b)(c)(?<y>)", seq(group(1, "x", alt(a, b)), group(2, "", c), group(3, "y", empty)), "x", "", "y")
	right(t, "(a(?:(?<x>b)|(?<y_2>c)))", group(1, "", seq(a, alt(group(2, "x", b), group(3, "y_2", c)))), "", "x", "y_2")
	right(t, "(?<x>(?<y>a))", group(1, "x", group(2, "y", a)), "x", "y")
	right(t, `(a\)[)]b)`, group(1, "", seq(a, sign(')'), set(sign(')')), b)), "")
	for _, name := range []string{"_", "x", "Z", "x1", "_1", "aZ09_zA9", "__", strings.Repeat("x", 995)} {
		right(t, "(?<"+name+">)", group(1, name, empty), name)
	}
	// Names alike are others.
	for _, other := range []string{"X", "xx", "x_", "_x", "x1"} {
		right(t, "(?<x>)(?<"+other+">)", seq(group(1, "x", empty), group(2, other, empty)), "x", other)
	}
}

// TestPlainSigns: a pattern of signs alone without meaning is those signs.
func TestPlainSigns(t *testing.T) {
	m := newMaker(1)
	for range 2000 {
		var s strings.Builder
		for range 2 + m.Intn(30) {
			s.WriteString(m.one("a", "z", "A", "Z", "0", "9", "-", ",", ":", ";", "<", ">", "=", "!", "&", "'", "\"", "/", "@", "_", "`", "~", "%", "\x00", "\x7f", "é", "€", "𝄞"))
		}
		right(t, s.String(), signs(s.String()))
		rightFree(t, s.String(), signs(s.String()))
		blanks := strings.ReplaceAll(s.String(), "a", " #\n\t\r")
		right(t, blanks, signs(blanks))
		if tree, _, _, _ := regex.Parse(blanks, false); regex.Depth(tree) != 2 {
			t.Errorf("%q: depth", blanks)
		}
	}
}
