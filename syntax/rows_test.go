package syntax_test

import (
	"strings"
	"testing"

	"lorgnette/api"
	"lorgnette/grove"
	"lorgnette/lex"
	"lorgnette/syntax"
)

// words are what filters' texts are put together of, each of which is some tokens, and what can be none.
var words = []string{".", "..", ".a", "1", "01", "1e99999", "f", "$x", "@csv", `"a"`, `""`, `"\(`, `)"`, `b"`, "(", ")", "[", "]", "{", "}", ":", ";", ",", "|", "?", "-", "+", "*", "//", "=", "|=", "<", "==", "and", "or", "as", "def", "label", "if", "then", "elif", "else", "end", "try", "catch", "reduce", "foreach", "break"}

// TestShortRows holds all rows of up to three words against the model.
func TestShortRows(t *testing.T) {
	t.Parallel()
	behind(t, "", 3)
}

// behind holds all rows of so many words that stand behind a text, and that text, against the model. What is wrong stays wrong, whatever stands behind it, but for a . at the end.
func behind(t *testing.T, s string, most int) {
	t.Helper()
	want := modelOf(s)
	given(t, s, want)
	if most == 0 {
		return
	}
	if want.err == api.ErrForm && !strings.HasSuffix(s, ".") {
		given(t, s+" 1", want)
		return
	}
	for _, word := range words {
		behind(t, s+" "+word, most-1)
	}
}

// begun are beginnings behind which each rule of the grammar is gone through.
var begun = []string{". as", ". as [", ". as [$x", ". as {", ". as {a", `. as {"a"`, ". as {$x", ". as {a:", ". as {a: $x", ". as $x", ". as $x |", ". as $x | 1 <", "{", "{a", "{a:", "{a: 1", `{"a"`, `{"\(1)"`, "{(1)", "{(1):", "{$x", "{$x,", ".[", ".[1", ".[1:", ".[:", ".[:1", ".[1:2", "..[", ".a.", ".a?", ". .", `."a"`, `. "\(1)"`, "def", "def f", "def f(", "def f(a", "def f($a;", "def f(a)", "def f:", "def f: 1", "def f: 1;", "label", "label $f", "label $f |", "if", "if 1", "if 1 then", "if 1 then 2", "if 1 then 2 elif", "if 1 then 2 elif 3", "if 1 then 2 elif 3 then", "if 1 then 2 elif 3 then 4", "if 1 then 2 else", "if 1 then 2 else 3", "if 1 then 2 end", "try", "try 1", "try 1 catch", "try 1 catch 2", "try try 1 catch 2", "reduce", "reduce 1", "reduce 1 as", "reduce 1 as $x", "reduce 1 as $x (", "reduce 1 as $x (1", "reduce 1 as $x (1;", "reduce 1 as $x (1; 2", "reduce 1 as $x (1; 2)", "foreach 1 as $x (1; 2", "foreach 1 as $x (1; 2;", "foreach 1 as $x (1; 2; 3", "foreach 1 as $x (1; 2; 3)", "break", "break $f", "f(", "f(1", "f(1;", "f(1; 2", "f(1; 2)", "@csv", `@csv "a"`, `"\(`, `"\(1`, `"\(1)`, "[", "[1", "[]", "(", "(1", "-", "-1", "- -", "1 +", "1 + 2", "1 // 2", "1 = 2", "1 = 2 //", "1 < 2", "1 < 2 and", "1 or 2", "1 and 2", "1 * 2", "1, 2", "1 | 2", "1 |"}

// TestBegunRows holds all rows of up to two words behind many beginnings against the model.
func TestBegunRows(t *testing.T) {
	t.Parallel()
	for _, first := range begun {
		behind(t, first, 2)
	}
}

// TestSigns holds all rows of three signs of two sides, with what stands between them, against the model: also where some of it is bound, negated, or begins a text.
func TestSigns(t *testing.T) {
	t.Parallel()
	signs := strings.Fields(", // = |= += -= *= /= %= //= or and == != < <= > >= + - * / %")
	for _, a := range signs {
		for _, b := range signs {
			for _, c := range signs {
				for _, s := range []string{"1 A 2 B 3 C 4", "1 A . as $x | 2 B 3 C 4", ". as $x | 1 A 2 B 3 C 4"} {
					s = strings.NewReplacer("A", a, "B", b, "C", c).Replace(s)
					given(t, s, modelOf(s))
				}
			}
			for _, s := range []string{"-1 A -.a B - -2", "1 A -. as $x | 2 B 3", "{a: 1 A 2 B 3}", "{a: 1 A 2, b: 3 B 4}", `"\(1 A 2)" B "\(3)"`, "try 1 A 2 B 3", "1 A B 2", "A 1 B"} {
				s = strings.NewReplacer("A", a, "B", b).Replace(s)
				given(t, s, modelOf(s))
			}
		}
	}
}

// TestSentences holds what the grammar makes against the model. Nearly all of it is right.
func TestSentences(t *testing.T) {
	t.Parallel()
	m := newMaker(1)
	rights, kinds := 0, map[int]bool{}
	for i := range 10000 {
		s := spelt(m.sentence("pipe", 1+i%40), blank)
		want := modelOf(s)
		given(t, s, want)
		if want.err != api.OK {
			continue
		}
		rights++
		n, _, _ := syntax.Parse(s)
		grove.Each(&n, func(n *api.Node) { kinds[n.Kind] = true })
	}
	if rights < 9000 || len(kinds) != api.NodeNone {
		t.Errorf("%d are right, of kinds %v", rights, kinds)
	}
}

// TestSpoilt holds what the grammar makes, with some tokens changed, against the model.
func TestSpoilt(t *testing.T) {
	t.Parallel()
	m := newMaker(2)
	var others []api.Token
	for _, word := range words {
		if tokens, _, err := lex.Tokens(word); err == api.OK {
			others = append(others, tokens...)
		}
	}
	for i := range 15000 {
		s := spelt(m.spoilt(m.sentence("pipe", 1+i%40), others), blank)
		given(t, s, modelOf(s))
	}
}

// TestCutOff holds each beginning of what the grammar makes, byte by byte, against the model.
func TestCutOff(t *testing.T) {
	t.Parallel()
	m := newMaker(3)
	for range 300 {
		s := spelt(m.sentence("pipe", 40), blank)
		for n := range len(s) {
			given(t, s[:n], modelOf(s[:n]))
		}
	}
}
