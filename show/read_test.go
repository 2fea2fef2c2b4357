package show_test

import (
	"strings"
	"testing"

	"lorgnette/api"
	"lorgnette/grove"
	"lorgnette/lex"
	"lorgnette/show"
	"lorgnette/syntax"
)

// read asks of what was read from a text: it may be, and is read again. It tells whether anything was read, and what was wrong.
func read(t *testing.T, s string) api.Errno {
	t.Helper()
	n, _, err := syntax.Parse(s)
	if err != api.OK {
		return err
	}
	if !show.May(n) {
		t.Errorf("%q: %.150s may not be", s, grove.Show(n))
	}
	right(t, n, modelText(n))
	there(t, n)
	return api.OK
}

// parts are what filters' texts are put together of.
var parts = []string{".", "..", ".a", "1", "f", "$x", "@csv", `"a"`, `"b c"`, `"\(`, `)"`, "(", ")", "[", "]", "{", "}", ":", ";", ",", "|", "?", "-", "//", "=", "as", "def", "label", "if", "then", "else", "end", "try", "catch", "reduce", "break"}

// rows reads all texts of so many parts behind a text, and tells how many are filters. What is wrong stays wrong, whatever stands behind it, but for a . at the end.
func rows(t *testing.T, s string, most int) int {
	err, count := read(t, s), 0
	if err == api.OK {
		count++
	}
	if most == 0 || err == api.ErrForm && !strings.HasSuffix(s, ".") {
		return count
	}
	for _, part := range parts {
		count += rows(t, s+" "+part, most-1)
	}
	return count
}

// TestReadRows reads all short texts, and all that go on from some beginnings.
func TestReadRows(t *testing.T) {
	t.Parallel()
	count := rows(t, "", 4)
	for _, s := range []string{". as", ". as {", `. as {"b c":`, ". as [$x", ". as $x | 1", "{", `{"a"`, `{"b c"`, `{"\(1)"`, "{(1)", "{a:", ".[", ".[1", ".[1:", "def f:", "def f(", "def f($a; b): 1;", "if 1 then", "if 1 then 2 elif 3 then 4", "try 1", "try 1 catch", "reduce . as $x (1;", "foreach . as $x (1;", "foreach . as $x (1; 2;", "f(1;", "@csv", `"\(1)`, "- 1", "1 //", "1 ="} {
		count += rows(t, s, 3)
	}
	if count < 10000 {
		t.Error("only", count)
	}
}

// TestReadLoosened reads trees' texts without some of their brackets, and with other signs, so that other signs hold together.
func TestReadLoosened(t *testing.T) {
	t.Parallel()
	m := newMaker(3)
	count := 0
	for i := range 20000 {
		s := m.loosened(modelText(m.tree(1 + i%40)))
		if read(t, s) == api.OK {
			count++
		}
	}
	if count < 8000 {
		t.Error("only", count)
	}
}

// loosened is a text without some of the brackets in it that stand in pairs.
func (m maker) loosened(s string) string {
	tokens, _, _ := lex.Tokens(s)
	left := []byte(s)
	var open []int
	for _, tok := range tokens {
		switch {
		case tok.Kind == api.TokOp && tok.Text == "(":
			open = append(open, tok.At)
		case tok.Kind == api.TokOp && tok.Text == ")":
			from := open[len(open)-1]
			open = open[:len(open)-1]
			if m.Intn(2) == 0 {
				left[from], left[tok.At] = ' ', ' '
			}
		}
	}
	return string(left)
}
