package syntax_test

import (
	"strings"
	"testing"

	"lorgnette/api"
	"lorgnette/grove"
	"lorgnette/syntax"
)

// within is a text within another one, so many times.
func within(s, head, tail string, times int) string {
	return strings.Repeat(head, times) + s + strings.Repeat(tail, times)
}

// holder is a text within which another one stands: ahead of it, and behind.
type holder struct{ head, tail string }

// pipeHolders hold one pipe in another; a ~ is where they begin to hold any.
var pipeHolders = []holder{{"(~", ")"}, {"1|~", ""}, {"1,2 | ~", ""}, {"[~", "]"}, {"f(~", ")"}, {"f(~1; ", ")"}, {"f(~1; ", "; 2)"}, {".[~", "]"}, {".[~", ":]"}, {".[~", ":1]"}, {".[~1:", "]"}, {".[:~", "]"}, {"{(~", "):1}"}, {"{a:[~", "]}"}, {"1 as $x | ~", ""}, {"-1 as [$x] |~", ""}, {"def f: ~", ";1"}, {"def f($a; b): ~1; ", ""}, {"label $f | ~", ""}, {"if ~", " then 1 end"}, {"if ~1 then ", " end"}, {"if ~1 then ", " else 1 end"}, {"if ~1 then 1 else ", " end"}, {"if ~1 then 1 elif ", " then 1 end"}, {"if ~1 then 1 elif 1 then ", " end"}, {"if ~1 then 1 elif 1 then 1 else ", " end"}, {"reduce 1 as $x (~", ";1)"}, {"reduce 1 as $x (~1;", ")"}, {"foreach 1 as $x (~", ";1)"}, {"foreach 1 as $x (~1;", ";1)"}, {"foreach 1 as $x (~1;1;", ")"}, {"try (~", ")"}, {"1 + (~", ")"}}

// TestPipesInPipes: one that would stand in 600 others is too deep where it would begin, whatever stands there, if anything does; one that stands in 599 is as any other.
func TestPipesInPipes(t *testing.T) {
	for _, h := range pipeHolders {
		first, rest, _ := strings.Cut(h.head, "~")
		deep := strings.Repeat(first+rest, 599)
		at := len(deep)
		wrong(t, deep, at, api.ErrShort)
		wrong(t, deep+"then", at, api.ErrForm)
		wrong(t, deep+"01", at, api.ErrForm)
		wrong(t, deep+"1 1", at+2, api.ErrForm)
		wrong(t, deep+"(1)", at+1, api.ErrDepth)
		wrong(t, deep+"1 | 1", at+4, api.ErrDepth)
		wrong(t, deep+"[]"+strings.Repeat(h.tail, 599)+"]", at+2+599*len(h.tail), api.ErrForm)
		if first == "(" {
			right(t, within("1", first, h.tail, 599), "num:1")
		} else {
			wrong(t, within("1", first+rest, h.tail, 599), 0, api.ErrDepth)
		}
		deepest := deep + first
		at = len(deepest)
		for _, s := range []string{rest + "1" + strings.Repeat(h.tail, 600), "1", "", "(", "((", "def f: 1; 2", ")", "then", "01", "1 | | 1"} {
			wrong(t, deepest+s, at, api.ErrDepth)
		}
		wrong(t, deepest+" # a\n 1", at+6, api.ErrDepth)
		wrong(t, deepest+" # a", at+4, api.ErrDepth)
		wrong(t, deepest+deepest+"1 ~", 2*at+2, api.ErrForm) // no token
	}
	// In texts, of which no more than 50 may stand in one another.
	s := within(within("1", `"\(`, `)"`, 50), "(", ")", 549)
	given(t, s, answer{within("num:1", "text(", ")", 50), 0, api.OK})
	wrong(t, "("+s, 700, api.ErrDepth)
	wrong(t, within(within("1", `"\(`, `)"`, 50), "(", ")", 600), 600, api.ErrDepth)
}

// TestNoPipes: what stands beside others, or within something else than pipes, stands in no more of them.
func TestNoPipes(t *testing.T) {
	right(t, "f("+strings.Repeat("1;", 700)+"1)", "call:f("+strings.Repeat("num:1 ", 700)+"num:1)")
	right(t, "{"+strings.Repeat("$x,", 700)+"$x}", "obj("+strings.Repeat("entry(text(part:x) var:x) ", 700)+"entry(text(part:x) var:x))")
	right(t, `"`+strings.Repeat(`\(1)`, 700)+`"`, "text("+strings.Repeat("num:1 ", 699)+"num:1)")
	right(t, "1 as ["+strings.Repeat("$x,", 700)+"$x]|1", "bind(num:1 parr("+strings.Repeat("pvar:x ", 700)+"pvar:x) num:1)")
	for _, s := range []string{strings.Repeat("-", 700) + "1", strings.Repeat("1,", 700) + "1", strings.Repeat("1//", 700) + "1", strings.Repeat("1+", 700) + "1", strings.Repeat(".a", 700), "." + strings.Repeat("[]", 700), ".[1:]" + strings.Repeat("?", 700), ".a" + strings.Repeat(".[1]", 700), strings.Repeat("try ", 700) + "1", strings.Repeat("try 1 catch ", 700) + "1", within("1", "{a:", "}", 700), within("1", "reduce ", " as $x (1; 2)", 700), within("1", "foreach ", " as $x (1; 2)", 700), "1 as " + within("$x", "[", "]", 700) + "|1", "1 as " + within("$x", "{a:", "}", 700) + "|1", "if 1 then 2 " + strings.Repeat("elif 3 then 4 ", 700) + "end"} {
		wrong(t, s, 0, api.ErrDepth)
		wrong(t, s+" then", len(s)+1, api.ErrForm)
	}
}

// treeHolders make a tree so many levels deeper, that of what stands within being the deepest part.
var treeHolders = []struct {
	holder
	levels int
}{
	{holder{"-", ""}, 1}, {holder{"1|", ""}, 1}, {holder{"1//", ""}, 1}, {holder{"[", "]"}, 1}, {holder{"try ", ""}, 1}, {holder{"try 1 catch ", ""}, 1}, {holder{"f(", ")"}, 1}, {holder{"f(1; ", "; 2)"}, 1}, {holder{".[", "]"}, 1}, {holder{".[1:", "]"}, 1}, {holder{".[:", "]"}, 1}, {holder{"{a:", "}"}, 2}, {holder{"{(", "):1}"}, 2}, {holder{"1 as $x |", ""}, 1}, {holder{"def f: ", ";1"}, 1}, {holder{"def f: 1; ", ""}, 1}, {holder{"label $f |", ""}, 1}, {holder{"if ", " then 1 end"}, 1}, {holder{"if 1 then ", " end"}, 1}, {holder{"if 1 then 1 else ", " end"}, 1}, {holder{"if 1 then 1 elif ", " then 1 end"}, 2}, {holder{"reduce ", " as $x (1; 2)"}, 1}, {holder{"reduce 1 as $x (", "; 2)"}, 1}, {holder{"reduce 1 as $x (1; ", ")"}, 1}, {holder{"foreach 1 as $x (1; 2; ", ")"}, 1}, {holder{"(", "|1)"}, 1}, {holder{"(", ",1)"}, 1}, {holder{"(", "+1)"}, 1}, {holder{"(", ")?"}, 1}, {holder{"(", ")[]"}, 1}, {holder{"(", ")[1]"}, 1}, {holder{"(", ")[1:]"}, 1},
}

// TestTreesTooDeep: a tree of 200 levels is told, and one of 201 is not.
func TestTreesTooDeep(t *testing.T) {
	for _, h := range treeHolders {
		for _, beside := range []int{0, 1, 2} {
			times := (199 - beside) / h.levels
			rest := 199 - times*h.levels
			s := within("("+strings.Repeat("-", rest)+"1)", h.head, h.tail, times)
			n, at, err := syntax.Parse(s)
			if grove.Depth(n) != 200 || syntax.Depth(n) != 200 || at != 0 || err != api.OK {
				t.Errorf("Parse(%.40q): %d levels, %d, %d", s, grove.Depth(n), at, err)
			}
			wrong(t, "-("+s+")", 0, api.ErrDepth)
			deeper := within("("+strings.Repeat("-", rest+1)+"1)", h.head, h.tail, times)
			wrong(t, deeper, 0, api.ErrDepth)
			// Whatever else is wrong is told ahead.
			wrong(t, deeper+" )", len(deeper)+1, api.ErrForm)
			wrong(t, deeper+" | ", len(deeper)+3, api.ErrShort)
			wrong(t, deeper+" | 1e99999", len(deeper)+3, api.ErrRange)
			wrong(t, deeper+" ~", len(deeper)+1, api.ErrForm)
		}
	}
	// Patterns, and texts, are parts of the tree.
	for _, s := range []string{"1 as [$x] | 1", "1 as {a: $x} | 1", `"\(1)"`} {
		n, _, _ := syntax.Parse(s)
		depth := grove.Depth(n)
		right(t, strings.Repeat("-", 200-depth)+s, within(grove.Show(n), "neg(", ")", 200-depth))
		wrong(t, strings.Repeat("-", 201-depth)+s, 0, api.ErrDepth)
	}
}

// TestLongTexts: the longest ones that may be are gone through, however much stands in one another in them.
func TestLongTexts(t *testing.T) {
	wrong(t, strings.Repeat("-", 99999)+"1", 0, api.ErrDepth)
	wrong(t, strings.Repeat("-", 100000), 100000, api.ErrShort)
	wrong(t, strings.Repeat("-", 99999)+")", 99999, api.ErrForm)
	wrong(t, strings.Repeat("try ", 24999)+"1", 0, api.ErrDepth)
	wrong(t, strings.Repeat("1//", 33333)+"1", 0, api.ErrDepth)
	wrong(t, strings.Repeat("1,", 49999)+"1", 0, api.ErrDepth)
	wrong(t, "."+strings.Repeat("?", 99999), 0, api.ErrDepth)
	wrong(t, "."+strings.Repeat("[]", 49999), 0, api.ErrDepth)
	wrong(t, "1 as "+strings.Repeat("[", 99995), 100000, api.ErrShort)
	wrong(t, "1 as "+within("$x", "[", "]", 49990)+"|1", 0, api.ErrDepth)
	wrong(t, within("1", "{a:", "}", 24999), 0, api.ErrDepth)
	wrong(t, within("1", "reduce ", " as $x(1;1)", 5000), 0, api.ErrDepth)
	wrong(t, "if 1 then 1 "+strings.Repeat("elif 1 then 1 ", 7000)+"end", 0, api.ErrDepth)
	wrong(t, strings.Repeat("(", 100000), 600, api.ErrDepth)
	n, at, err := syntax.Parse("f(" + strings.Repeat("1;", 49998) + "1)")
	if len(n.Kids) != 49999 || at != 0 || err != api.OK {
		t.Errorf("%d kids, %d, %d", len(n.Kids), at, err)
	}
}

// keys is a key without a value, in another one, so many times: each one stands twice in the tree.
func keys(times int) string {
	return within("1", `{"\(`, `)"}`, times)
}

// TestKeysTwice: keys without values in one another make trees of twice as many nodes each time. They are told as long as the document speaks of so great ones, and none takes long to be refused.
func TestKeysTwice(t *testing.T) {
	tree := "num:1"
	for times := range 12 {
		right(t, keys(times), tree)
		tree = "obj(entry(text(" + tree + ") index(. text(" + tree + "))))"
	}
	for times := 30; times <= 49; times++ {
		wrong(t, keys(times), 0, api.ErrSize)
		wrong(t, "-- "+keys(times), 0, api.ErrSize)
		wrong(t, keys(times)+" ]", len(keys(times))+1, api.ErrForm)
	}
	wrong(t, "---"+keys(49), 0, api.ErrSize)
	wrong(t, "----"+keys(49), 0, api.ErrDepth)
	wrong(t, keys(50), 0, api.ErrDepth)
	wrong(t, keys(51), 201, api.ErrDepth) // the text itself
	wrong(t, `{"\({"\(1)","\(2)"})","\({"\(`+strings.Repeat(keys(40)+",", 300)+`1)"})"}`, 0, api.ErrDepth)
}
