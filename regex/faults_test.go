package regex_test

import (
	"slices"
	"strconv"
	"strings"
	"testing"

	"lorgnette/api"
)

// TestFaultsByHand asks for the first sign with which nothing goes on, ahead of which a ~ stands; at the end, it is too short.
func TestFaultsByHand(t *testing.T) {
	for _, s := range slices.Concat(faultsOfParts, faultsOfRepeats, faultsOfGroups, faultsOfEscapes, faultsOfSets) {
		marked(t, s, false)
		marked(t, s, true)
	}
}

var faultsOfParts = []string{
	"~*", "~+", "~?", "~{", "~{1}", "~}", "~]", "~)", "a~}", "a~]", "a~)", "a|~*", "a|~?", "|~+", "^*~*", "a|b~)", "(a)~)", "()~)", "é~]", "𝄞é~)b", "a{1}~}", "[a]~]", "()~]", "a~)b(", "~*a*", "~*)", "~)(",
}

var faultsOfRepeats = []string{
	"a*~*", "a*~+", "a*~{", "a+~*", "a?~*", "a?~+", "a??~?", "a*?~?", "a*?~*", "a*?~{", "a{1}~{2}", "a{1}~*", "a{1}?~?", "a{1}?~+", "a{1,2}~*", "a{1,}?~*", "^?~*", "a*~*?", "a{1}~)",
	"a{~", "a{~}", "a{~,", "a{~,1}", "a{~x", "a{~-1}", "a{~ 1}", "a{~+1}", "a{~é", "a{~{", "a{~)", "a{1~", "a{1~x}", "a{1~ }", "a{1~;", "a{12~", "a{12~.", "a{123~", "a{123~4}", "a{000~0}", "a{1~{", "a{1~)", "a{255~", "a{255~5",
	"a{1,~", "a{1,~,", "a{1,~x", "a{1,~ 2}", "a{1,~)", "a{1,2~", "a{1,2~,3}", "a{1,2~x", "a{1,2~ }", "a{1,234~", "a{1,234~5}", "a{1,012~0}", "a{1,255~", "a{1,255~0", "a{0,0~", "a{9,90~", "a{20,~",
}

var faultsOfGroups = []string{
	"(~", "(a~", "(a|~", "(a~]", "(~*)", "(a|~*)", "((a)~", "(a(b)~", "(a*~", "(a[b]~", "(?~", "(?~)", "(?~a)", "(?~=a)", "(?~!a)", "(?~#a)", "(?~P<x>a)", "(?~'x'a)", "(?~i)", "(?~ :a)", "(?~?", "(?~*", "(?~(", "(a~]*",
	"(?:~", "(?:a~", "(?:~?)", "(?:~*)", "(?::~", "(?:~]",
	"(?<~", "(?<~>a)", "(?<~=a)", "(?<~!a)", "(?<~1>a)", "(?<~ x>a)", "(?<~-", "(?<~é>", "(?<~<", "(?<~)", "(?<~(", "(?<x~", "(?<x~)", "(?<x~ >a)", "(?<x~-y>", "(?<x~é", "(?<x1_~", "(?<x1_~=", "(?<x~<", "(?<_~#", "(?<x>~", "(?<x>~*", "(?<x>~?a)", "(?<x>a~", "(?<x>a~]", "(?<x>)~)", "(?<x>a)(?<y~", "(?<x>a)(?<xy~", "(?<xy>a)(?<~>", "(?<xy>a)(?<x~",
}

var faultsOfEscapes = []string{
	`\~`, `a\~`, `(\~`, `\~q`, `\~1`, `\~0`, `\~a`, `\~N`, `\~T`, `\~R`, `\~ `, `\~é`, `\~x41`, `\~u0041`, `\~A`, `\~z`, `\~Z`, `\~p{L}`, `\~k<x>`, "\\~\n", "\\~\x7f", "\\~\x1f", "\\~\u0080", `\\\~`, `\\\~e`, `\d~)`, `\n*~*`, `(\)~`, `\(~)`, `[\]~`, `\[~]`, `a\{~}`,
}

var faultsOfSets = []string{
	"[~", "[~]", "[~]]", "[~](", "[~[", "[^~", "[^~]", "[^~]]", "[^~[", "[^^~", "[a~", "[a~[", "[a~[:alpha:]]", "[a-b~", "[a-b~[", "[(a)~", "[a)~", "[a]~]", "[ ~", "[#]~)", "[ # ~",
	"[-~", "[--~", "[---~", "[a-~", "[^a-~", "[a-~[", "[a-b-~", "[a-b--~", "[!--~", "[a-~-", "[-~[", "[--~[", "[---~[", "[a-b-~[",
	`[\~`, `[\~b]`, `[\~B]`, `[\~q]`, `[\~1]`, `[\~ ]`, `[\~é]`, `[a\~b]`, `[a-\~`, `[a-\~d]`, `[a-\~W]`, `[a-\~b]`, `[a-\~q]`, `[a-\~ ]`, `[é-\~`, `[é-\~q`, `[\d~`, `[\d-~`, `[\d-a~`, `[\d-\d~`, `[\d--~`, `[\d--\~d`, `[\d-~[`, `[a\]~`, `[\]-~`, `[\]-\~`,
}

// TestNumbers asks for all repeats of two numbers.
func TestNumbers(t *testing.T) {
	t.Parallel()
	for n := range 300 {
		first := strconv.Itoa(n)
		if n > 255 {
			for _, rest := range []string{"", "}", ",", ",1}", "0", "0}", "x"} {
				wrong(t, "a{"+first+rest, 4, api.ErrForm)
			}
			continue
		}
		right(t, "a{"+first+"}", repeat(sign('a'), n, n))
		right(t, "a{"+first+",}", repeat(sign('a'), n, endless))
		for m := range 300 {
			s := "a{" + first + "," + strconv.Itoa(m)
			if n <= m && m <= 255 {
				right(t, s+"}", repeat(sign('a'), n, m))
			} else {
				wrong(t, s+"}", len(s)-1, api.ErrForm)
			}
		}
	}
}

// TestNumbersWrong: a number that is below the one ahead, or too great, is wrong at its last digit, whatever could stand behind it, and whatever does.
func TestNumbersWrong(t *testing.T) {
	for _, s := range []string{"a{2,1", "a{20,1", "a{20,19", "a{2,01", "a{2,001", "a{200,1", "a{200,19", "a{200,199", "a{255,3", "a{255,30", "a{255,254", "a{10,9", "a{100,99", "a{100,099", "a{1,0", "a{1,00", "a{1,000", "a{001,0"} {
		for _, rest := range []string{"", "}", "x", ",", " ", "}*", "}}", "?", ")"} {
			wrong(t, s+rest, len(s)-1, api.ErrForm)
		}
	}
	for _, s := range []string{"a{256", "a{300", "a{999", "a{1,256", "a{1,999", "a{255,256", "a{255,300", "a{001,260"} {
		for _, rest := range []string{"", "}", "x", ",", " ", "0", "9}"} {
			wrong(t, s+rest, len(s)-1, api.ErrForm)
		}
	}
	// What is ahead counts first.
	wrong(t, "(a{2,1}", 5, api.ErrForm)
	wrong(t, "*a{2,1}", 0, api.ErrForm)
	wrong(t, "[a]{2,1}[b-a]", 6, api.ErrForm)
	wrong(t, "[b-a]{2,1}", 3, api.ErrForm)
	wrong(t, "a{256,1}", 4, api.ErrForm)
}

// TestSpansWrong: an item whose second sign is below the first one is wrong at its last sign.
func TestSpansWrong(t *testing.T) {
	for s, at := range map[string]int{
		"[b-a]": 3, "[b-a": 3, "[^b-a]": 4, "[b-ax": 3, "[ab-a]": 4, "[a-b-a-A]": 7, "[a---]": 3, "[a--b]": 3, "[a-b---b--!]": 9, "[---b-a]": 6, "[----a-A]": 7, "[é-z]": 3, "[𝄞-é]": 3, "[\U0010ffff-\U0010fffe]": 3, "[ -\n]": 3, "[b-^]": 3, "[a-#]": 3, "(a[b-a": 5,
		`[b-\n]`: 4, `[b-\n`: 4, `[b-\-]`: 4, `[b-\]]`: 4, `[b-\\]`: 4, `[a-\-b]`: 4, `[é-\~]`: 4, `[\n-\t]`: 5, `[\r-\n`: 5, `[\]-\[]`: 5, `[\]-A]`: 4, `[\dz-a]`: 5, `[\d--!]`: 5, `[\d-z-a]`: 6, `[\da-b-z-a]`: 9,
	} {
		wrong(t, s, at, api.ErrForm)
	}
}

// TestSpans asks for the items of all signs with each other, with a backslash ahead of them or not.
func TestSpans(t *testing.T) {
	t.Parallel()
	spelt := func(r rune) []string {
		l := []string{string(r), `\` + string(r)}
		switch {
		case strings.ContainsRune(`[]\^`, r):
			return l[1:]
		case isMark(r):
			return l
		}
		return l[:1]
	}
	for first := rune(32); first < 130; first++ {
		for last := rune(32); last < 130; last++ {
			for _, head := range spelt(first) {
				for _, tail := range spelt(last) {
					s := "[" + head + "-" + tail
					if at := len([]rune(s)) - 1; first > last {
						wrong(t, s+"]", at, api.ErrForm)
						wrong(t, s, at, api.ErrForm)
						continue
					}
					right(t, s+"]", set(span(first, last)))
					right(t, s+"-]", set(span(first, last), sign('-')))
				}
			}
		}
	}
}

// TestNamesTwice: a name that stands twice is wrong at its last sign.
func TestNamesTwice(t *testing.T) {
	for s, at := range map[string]int{"(?<x>a)(?<x>b)": 10, "(?<x>(?<x>b))": 8, "(?<x>a)|(?<x>b)": 11, "(?<x>a)(?<x>": 10, "(?<xyz>)(?<xyz>)": 13, "(?<x>)(?<y>)(?<x>)": 15, "(?<x>)(?<y>)(?<y>)": 15, "(?:(?<x>))(?<x>)": 13, "((?<_>))((?<_>))": 12, "(?<x>é)(?<x>": 10, "(?<a1>)(?<a>)(?<a1>*": 17, "(?<x>)[(?<x>](?<x>)": 16} {
		wrong(t, s, at, api.ErrForm)
	}
	// As with numbers, also where more of it could stand behind it.
	for _, rest := range []string{"", ">", "=", ")", " ", "-", ">)"} {
		wrong(t, "(?<x>)(?<x"+rest, 9, api.ErrForm)
	}
	var s strings.Builder
	for i := range 90 {
		s.WriteString("(?<n" + strconv.Itoa(100+i) + ">)")
	}
	if got := parsed(s.String(), false); got.err != api.OK || len(got.names) != 90 || got.names[89] != "n189" {
		t.Error(got)
	}
	wrong(t, s.String()+"(?<n100>)", 816, api.ErrForm)
	wrong(t, s.String()+"(?<n189>)", 816, api.ErrForm)
	wrong(t, s.String()+"(?<n190>", 818, api.ErrShort)
}

// TestSizes asks for patterns of as many signs as there may be, and of more.
func TestSizes(t *testing.T) {
	right(t, strings.Repeat("a", 1000), signs(strings.Repeat("a", 1000)))
	right(t, strings.Repeat("𝄞", 1000), signs(strings.Repeat("𝄞", 1000)))
	right(t, strings.Repeat("\xff", 1000), signs(strings.Repeat("\ufffd", 1000)))
	rightFree(t, strings.Repeat(" ", 1000), empty)
	rightFree(t, "a#"+strings.Repeat("*", 998), sign('a'))
	wrong(t, strings.Repeat("a", 999)+"(", 1000, api.ErrShort)
	wrong(t, strings.Repeat("a", 999)+")", 999, api.ErrForm)
	for _, s := range []string{strings.Repeat("a", 1001), strings.Repeat("𝄞", 1001), strings.Repeat(" ", 1001), "*" + strings.Repeat("a", 1000), strings.Repeat("(", 1001), strings.Repeat("\xff", 1001), "#" + strings.Repeat("a", 1000), strings.Repeat("a", 1000000), strings.Repeat(")", 5000), strings.Repeat("a", 1000) + "*"} {
		wrong(t, s, 0, api.ErrSize)
	}
}

// TestDepths asks for groups in as many others as there may be, and in more.
func TestDepths(t *testing.T) {
	named := func(i int) string { return "(?<x" + strconv.Itoa(i) + ">" }
	for _, head := range []func(i int) string{
		func(int) string { return "(" },
		func(int) string { return "(?:" },
		func(int) string { return "a|()(" },
		func(int) string { return `(?:)[(]\((` },
		named,
		func(i int) string { return []string{"(", "(?:", named(i)}[i%3] },
	} {
		var s string
		for i := range 50 {
			s += head(i)
		}
		for _, free := range []bool{false, true} {
			if got := parsed(s+strings.Repeat(")", 50), free); got.err != api.OK {
				t.Errorf("%s: %v", s, got)
			}
		}
		wrong(t, s, len(s), api.ErrShort)
		for _, rest := range []string{"(", "()", "(?", "(?:a)", "(?<x>a)", "(*", "(?=", "(?<1", "(]"} {
			wrong(t, s+rest, len(s), api.ErrDepth)
			wrong(t, s+"a|"+rest, len(s)+2, api.ErrDepth)
			wrong(t, s+"))(("+rest, len(s)+4, api.ErrDepth)
		}
		wrong(t, s+")(", len(s)+2, api.ErrShort)
		wrong(t, s+"*(", len(s), api.ErrForm)
		wrong(t, s+"[(", len(s)+2, api.ErrShort)
		given(t, s+"#((", true, fault(len(s)+3, api.ErrShort))
	}
	right(t, strings.Repeat("(?:", 50)+`[(]\(`+strings.Repeat(")", 50), seq(set(sign('(')), sign('(')))
	right(t, strings.Repeat("(?:a)", 200), signs(strings.Repeat("a", 200)))
	given(t, strings.Repeat("(?: ", 51), true, fault(200, api.ErrDepth))
}
