package regex_test

import (
	"testing"

	"lorgnette/api"
)

// TestFree asks for free patterns, in which blanks and notes are as if they weren't there, and for the same ones read as others are.
func TestFree(t *testing.T) {
	a, b := sign('a'), sign('b')
	for s, want := range map[string]api.Regex{
		"": empty, " ": empty, "\t\r\n ": empty, "#": empty, "# a(b*": empty, "#\n": empty, "##\n#": empty, " a": a, "a ": a, " a b ": seq(a, b), "a#b": a, "a#b\nb": seq(a, b), "a # b\n # c\n\tb#": seq(a, b), "a#\r*\nb": seq(a, b), "a#b\r": a, "#a\n": empty, "a # (\n": a,
		"a *": repeat(a, 0, -1), "a#*\n+": repeat(a, 1, -1), "a\n?": repeat(a, 0, 1), "a ? ?": lazy(a, 0, 1), "a *#\n?": lazy(a, 0, -1), "a\t+\r?b": seq(lazy(a, 1, -1), b), "a {2}": repeat(a, 2, 2), "a # b\n{2,3} ?": lazy(a, 2, 3), "a{2,} # c\n ? b": seq(lazy(a, 2, -1), b), "a* b": seq(repeat(a, 0, -1), b),
		" | ": alt(empty, empty), "a | b": alt(a, b), "a #|\n| b": alt(a, b), " |a": alt(empty, a), "a| # b": alt(a, empty),
		"[ ]": set(sign(' ')), "[#]": set(sign('#')), "[ #a\n\t\r]": set(sign(' '), sign('#'), a, sign(10), sign(9), sign(13)), "[ -#]": set(span(' ', '#')), "[a -b]": set(a, span(' ', 'b')), "[^ ]": noSet(sign(' ')), "[ ^]": set(sign(' '), sign('^')), " [a] ": set(a), "[a] +": repeat(set(a), 1, -1), "[a#b] # c": set(a, sign('#'), b), `[\#]`: set(sign('#')),
		`\#`: sign('#'), `\# a`: seq(sign('#'), a), `a\#*`: seq(a, repeat(sign('#'), 0, -1)), `\d \w#`: seq(class('d'), class('w')), ". ^ $ #.": seq(some, begin, end), `\n \t`: seq(sign(10), sign(9)),
		"é #é\n é": seq(sign('é'), sign('é')), "\u00a0": sign(160), "\v\f\u2028": seq(sign(11), sign(12), sign(8232)), "a\x00": seq(a, sign(0)), "a\u0085b": seq(a, sign(133), b),
	} {
		rightFree(t, s, want)
	}
	rightFree(t, "( a )", group(1, "", a), "")
	rightFree(t, "( )", group(1, "", empty), "")
	rightFree(t, "(#)\n)", group(1, "", empty), "")
	rightFree(t, "( # ?:\n a | b )+", repeat(group(1, "", alt(a, b)), 1, -1), "")
	rightFree(t, "(?: a ) ", a)
	rightFree(t, "(?:#)\na b) *", repeat(seq(a, b), 0, -1))
	rightFree(t, "(?<x> a ) ?", repeat(group(1, "x", a), 0, 1), "x")
	rightFree(t, "(?<x>#)\n)(?<y> )", seq(group(1, "x", empty), group(2, "y", empty)), "x", "y")
	rightFree(t, "( ( a ) b ) # )", group(1, "", seq(group(2, "", a), b)), "", "")
	rightFree(t, " (a) (b) ", seq(group(1, "", a), group(2, "", b)), "", "")
}

// TestNotFree asks for the same signs where patterns aren't free: they are signs like any other.
func TestNotFree(t *testing.T) {
	for _, s := range []string{" a", "a b", "#a", "a #b\nc", "\t\r\n #", "# #"} {
		right(t, s, signs(s))
	}
	right(t, " ", sign(' '))
	right(t, "#", sign('#'))
	right(t, "a *", seq(sign('a'), repeat(sign(' '), 0, -1)))
	right(t, "a* ?", seq(repeat(sign('a'), 0, -1), repeat(sign(' '), 0, 1)))
	right(t, "#{2}", repeat(sign('#'), 2, 2))
	right(t, "( )", group(1, "", sign(' ')), "")
	right(t, "(?: #)", signs(" #"))
	right(t, " | ", alt(sign(' '), sign(' ')))
	right(t, `\#`, sign('#'))
	given(t, "( ?:a)", false, answer{group(1, "", seq(repeat(sign(' '), 0, 1), sign(':'), sign('a'))), []string{""}, 0, api.OK})
	given(t, "#(\n", false, fault(3, api.ErrShort))
	given(t, "a#)\n", false, fault(2, api.ErrForm))
}

// TestFreeFaults asks for the first sign with which no free pattern goes on, ahead of which a ~ stands; at the end, it is too short.
func TestFreeFaults(t *testing.T) {
	for _, s := range []string{
		" ~*", "#\n~*", "a * ~*", "a *#\n~+", "a | ~*", "a ? ? ~?", "# *\n~*", " # é\n~)", "a ~}", "a # \r\n ~]",
		// Behind a backslash.
		`\~ `, `\~ n`, "\\~\n", "\\~\t", `a \~ d`, `[\~ ]`, `\#~)`,
		// In a repeat's braces.
		"a{~ 1}", "a{1~ }", "a{1~ ,}", "a{1,~ }", "a{1,~ 2}", "a{1,2~ }", "a{~#\n1}", "a{1~#\n}", "a{1,~#\n2}", "a {~ ", "a{1~ 2}", "a{~\n1}",
		// Behind a (, up to the end of its ?: or ?<name>.
		"( ~?:a)", "( ~?<x>a)", "(#\n~?:a)", "(\n~?", "(?~ :a)", "(?~#\n:a)", "(?~ <x>a)", "(?<~ x>a)", "(?<~#\nx>a)", "(?<x~ >a)", "(?<x~ y>a)", "(?<x~#\n>a)", "(?~ ", "(?: ~?", "(?<x> ~?", "(?: ~*", "( ~*)", "( ~?)",
		// Too short.
		"(  ~", "( a # )~", "( a # )\n~", "a (#\n)(~", "[ #~", "[ # ~", "[a-~", "(?: ~", "(?<x> #~",
		// In sets.
		"[ ~[", "[#\n~[", "[a#~[]", "[#-~ ]", "[ ~[]]",
	} {
		marked(t, s, true)
	}
	given(t, "[a- ]", true, fault(3, api.ErrForm)) // from a to a blank
	given(t, "[a- b]", true, fault(3, api.ErrForm))
	given(t, "[a-#]", true, fault(3, api.ErrForm))
	given(t, " a {2,1} ", true, fault(6, api.ErrForm))
	given(t, " ( ?<x>a) (?<x>b)", true, fault(3, api.ErrForm))
	given(t, "(?<x> a) # (?<x>)\n(?<x>b)", true, fault(21, api.ErrForm))
}
