package regex_test

import (
	"strings"
	"testing"
)

// against holds what Parse tells of a pattern against the model, free and not, and counts how it ended.
func against(t *testing.T, pattern string, ends map[int]int) {
	t.Helper()
	for _, free := range []bool{false, true} {
		want := modelOf(pattern, free)
		given(t, pattern, free, want)
		ends[int(want.err)]++
	}
}

// alphabet are the signs that mean something, and some of those that don't.
var alphabet = strings.Split("a b d D 1 2 é _ - ^ $ . | ( ) [ ] { } * + ? \\ : < > , # n", " ")

// TestRows asks for all short rows of signs.
func TestRows(t *testing.T) {
	t.Parallel()
	ends := map[int]int{}
	rows(append(alphabet, " ", "\n"), 3, func(row string) { against(t, row, ends) })
	if len(ends) < 3 || ends[0] < 3000 {
		t.Error("too few:", ends)
	}
}

// TestRowsBehind asks for all short rows of signs behind beginnings of each kind.
func TestRowsBehind(t *testing.T) {
	t.Parallel()
	ends := map[int]int{}
	signs := append(alphabet, " ", "\n")
	for _, head := range []string{"a", "ab", "(", "(a", "((", "(?", "(?:", "(?<", "(?<a", "(?<a>", "(?<a1", "(?<a>)(?<", "(?<a>)(?<a", "(?<a>(", "()(", "a|", "|", "[", "[^", "[a", "[a-", "[-", "[--", "[a-b", "[a-b-", "[b-", "[^-", "[\\", "[a\\", "[a-\\", "[\\d", "[\\d-", "[a]", "[a", "\\", "a\\", "\\d", "\\\\", "a*", "a+?", "a{", "a{1", "a{12", "a{123", "a{2,", "a{20,", "a{2,1", "a{20,1", "a{12,1", "a{12,12", "a{2}", "a{2,}", "a{1,2}", "a{1}?", "(?:a*)", "#", "a #", "a \n", "( ", "(#", " (#\n", "(?:(?:(?:(?:(?:(?:", strings.Repeat("(", 49), strings.Repeat("(?:", 49), "é("} {
		rows(signs, 2, func(row string) { against(t, head+row, ends) })
	}
	if len(ends) < 4 || ends[0] < 10000 || ends[2] < 10000 || ends[5] < 5000 {
		t.Error("too few:", ends)
	}
}

// TestRowsOf asks for all rows of few signs, longer ones.
func TestRowsOf(t *testing.T) {
	t.Parallel()
	for _, c := range []struct {
		head, signs string
		most        int
	}{
		{"[", "ab-^]\\d", 5}, {"[", "-]an\\", 6}, {"[é-", "\\~néa]-", 5}, {"a{", "1205,}", 5}, {"a{25", "0569,}?", 5}, {"a{1", "0129,}", 5}, {"(?<a>)", "(?<ab>)", 5}, {"(?<a>)(?<", "ab1_>)=", 5}, {"", "()|a?:", 5}, {"", "a*+?{1}", 5}, {"(?", "<:a>)?|", 5}, {"", "(a)|*", 6}, {"", "a# \n*?", 5}, {"(", "# \n?:)", 5}, {"[", "# \na]-", 5}, {"", "\\ #\nd(", 5},
	} {
		ends := map[int]int{}
		rows(strings.Split(c.signs, ""), c.most, func(row string) { against(t, c.head+row, ends) })
		if len(ends) < 2 || ends[0] < 50 {
			t.Errorf("too few of %s, %s: %v", c.head, c.signs, ends)
		}
	}
}
