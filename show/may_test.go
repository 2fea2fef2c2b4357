package show_test

import (
	"slices"
	"strconv"
	"strings"
	"testing"

	"lorgnette/api"
	"lorgnette/grove"
)

// TestWrong asks of trees that may not be, each for one cause, wherever it stands.
func TestWrong(t *testing.T) {
	for i, n := range grove.WrongWithin() {
		called := "wrong tree " + strconv.Itoa(i)
		if len(n.Kids) == 0 {
			called += ": " + grove.Show(n)
		}
		wrong(t, n, called)
	}
}

// TestMayWords asks of each word of the language, and names much alike, where any name may stand, and where none of the language's may.
func TestMayWords(t *testing.T) {
	f := grove.Self()
	for word := range strings.SplitSeq(words, "|") {
		wrong(t, grove.Node(api.NodeCall, word), word)
		wrong(t, grove.Node(api.NodeCall, word, f), word)
		for _, name := range []string{word + "1", "_" + word, word + "_", strings.ToUpper(word)} {
			right(t, grove.Node(api.NodeCall, name), name)
		}
		right(t, grove.Node(api.NodeLabel, word, f), "(label $"+word+" | .)")
		right(t, grove.Node(api.NodeFormat, "@"+word), "@"+word)
		right(t, grove.Node(api.NodeIndex, "", f, grove.Name(word)), "."+word)
		right(t, grove.Node(api.NodeObject, "", grove.Entry(grove.Name(word), grove.Node(api.NodeVar, word))), "{"+word+": $"+word+"}")
		right(t, grove.Node(api.NodeDef, word, grove.Node(api.NodeParam, word), grove.Node(api.NodeParam, "$"+word), f, f), "(def "+word+"("+word+"; $"+word+"): .; .)")
		right(t, grove.Node(api.NodeBind, "", f, grove.Node(api.NodePatObj, "", grove.Node(api.NodePatKey, word, grove.Var(word))), f), "(. as {"+word+": $"+word+"} | .)")
	}
}

// TestMayNumbers asks of numbers at the borders of what they may be.
func TestMayNumbers(t *testing.T) {
	for _, s := range []string{"0", "0.0", "0e0", "9", "10", "1.0", "1E+5", "1e-05", "1e10000", "1e-10000", "0.1e10001", "0e99999", strings.Repeat("9", 400), strings.Repeat("1", 400) + strings.Repeat("0", 600), "0." + strings.Repeat("0", 998)} {
		right(t, grove.Num(s), s)
		right(t, grove.Neg(grove.Num(s)), "(-"+s+")")
		wrong(t, grove.Num("-"+s), "-"+s)
		wrong(t, grove.Num(s+" "), s+" ")
	}
}

// around holds a tree within a node of some kind.
type around func(n api.Node) api.Node

// chains hold a tree in each kind of node, at each place.
func chains() []around {
	f, p, none := grove.Self(), grove.Var("x"), grove.None()
	with := func(kind int, text string, ahead, behind []api.Node) around {
		return func(n api.Node) api.Node {
			return grove.Node(kind, text, slices.Concat(ahead, []api.Node{n}, behind)...)
		}
	}
	row := func(l ...api.Node) []api.Node { return l }
	return []around{
		grove.Neg, with(api.NodeArray, "", nil, nil), with(api.NodeIndex, "", nil, row(grove.Name("a"))), with(api.NodeIndex, "", row(f), nil), with(api.NodeSlice, "", nil, row(f, none)), with(api.NodeSlice, "", row(f), row(none)), with(api.NodeSlice, "", row(f, none), nil), with(api.NodeEach, "", nil, nil), with(api.NodeTry, "", nil, nil), with(api.NodeTry, "", nil, row(f)), with(api.NodeTry, "", row(f), nil), with(api.NodePipe, "", nil, row(f)), with(api.NodePipe, "", row(f), nil), with(api.NodeComma, "", nil, row(f)), with(api.NodeComma, "", row(f), nil), with(api.NodeOp, "//", nil, row(f)), with(api.NodeOp, "-", row(f), nil), with(api.NodeIf, "", nil, row(f, none)), with(api.NodeIf, "", row(f), row(f)), with(api.NodeIf, "", row(f, f), nil), with(api.NodeReduce, "", nil, row(p, f, f)), with(api.NodeReduce, "", row(f, p), row(f)), with(api.NodeReduce, "", row(f, p, f), nil), with(api.NodeForeach, "", nil, row(p, f, f, f)), with(api.NodeForeach, "", row(f, p), row(f, none)), with(api.NodeForeach, "", row(f, p, f), row(none)), with(api.NodeForeach, "", row(f, p, f, f), nil), with(api.NodeLabel, "a", nil, nil), with(api.NodeBind, "", nil, row(p, f)), with(api.NodeBind, "", row(f, p), nil), with(api.NodeCall, "f", nil, nil), with(api.NodeCall, "f", row(f), row(f)), with(api.NodeDef, "f", nil, row(f)), with(api.NodeDef, "f", row(grove.Node(api.NodeParam, "$a")), row(f)), with(api.NodeDef, "f", row(f), nil),
		func(n api.Node) api.Node { return grove.Node(api.NodeObject, "", grove.Entry(grove.Name("a"), n)) },
		func(n api.Node) api.Node { return grove.Node(api.NodeObject, "", grove.Entry(n, f)) },
	}
}

// TestMayDepth: a tree of 200 levels may be, and is read again; one of 201 may not.
func TestMayDepth(t *testing.T) {
	for i, hold := range chains() {
		for _, leaf := range []api.Node{grove.Self(), grove.Name("a"), grove.Of(". as [[$x]] | 1"), grove.Of("{a: 1}")} {
			n := leaf
			for grove.Depth(hold(n)) <= 200 {
				n = hold(n)
			}
			n = grove.Within(n, grove.Neg, 200-grove.Depth(n))
			right(t, n, modelText(n))
			there(t, n)
			for _, deeper := range []api.Node{hold(n), grove.Neg(n), grove.Within(leaf, hold, 201), grove.Node(api.NodePipe, "", grove.Self(), n)} {
				wrong(t, deeper, "too deep tree "+strconv.Itoa(i))
			}
		}
	}
	// Patterns are parts of the tree.
	for _, hold := range []around{
		func(n api.Node) api.Node { return grove.Node(api.NodePatArr, "", n) },
		func(n api.Node) api.Node { return grove.Node(api.NodePatArr, "", grove.Var("y"), n) },
	} {
		p := grove.Within(grove.Var("x"), hold, 198)
		n := grove.Node(api.NodeBind, "", grove.Self(), p, grove.Self())
		right(t, n, modelText(n))
		there(t, n)
		wrong(t, grove.Node(api.NodeBind, "", grove.Self(), hold(p), grove.Self()), "too deep pattern")
	}
}

// TestMayTexts: 50 texts may stand in one another, and are read again; 51 may not.
func TestMayTexts(t *testing.T) {
	f := grove.Self()
	inKey := func(n api.Node) api.Node { return grove.Node(api.NodeObject, "", grove.Entry(grove.Text(n), f)) }
	inIndex := func(n api.Node) api.Node { return grove.Node(api.NodeIndex, "", f, grove.Text(grove.Part("a"), n)) }
	inFormat := func(n api.Node) api.Node { return grove.Node(api.NodeText, "@csv", n, grove.Part("a")) }
	beside := func(n api.Node) api.Node {
		return grove.Node(api.NodePipe, "", grove.Text(f, f), grove.Text(f, n, grove.Part("a b")))
	}
	for _, hold := range []around{grove.InText, inKey, inIndex, inFormat, beside} {
		for _, c := range []struct {
			n     api.Node
			texts int
		}{
			{f, 0}, {grove.Text(), 1}, {grove.Name("a"), 1}, {grove.Name("a b"), 1}, {grove.Node(api.NodeText, "@csv", grove.Part("a")), 1}, {grove.Text(grove.Name("a")), 2}, {grove.Node(api.NodeFormat, "@csv"), 0},
			// Plain names.
			{grove.Of(".a"), 0}, {grove.Of(`.a["b"]."c"`), 0}, {grove.Of(`.["a b"]`), 1}, {grove.Of(`.[""]`), 1}, {grove.Of(`."1"`), 1}, {grove.Of(`"a"[1]`), 1}, {grove.Of(`"a".b`), 1}, {grove.Of(`.[@csv "a"]`), 1}, {grove.Of(`.["a" | 1]`), 1}, {grove.Of("{a: 1}"), 0}, {grove.Of(`{"a": .b}`), 0}, {grove.Of(`{("if"): .b}`), 0}, {grove.Of(`{a: "a"}`), 1}, {grove.Of(`{"a b": 1}`), 1}, {grove.Of(`{(@csv "a"): 1}`), 1}, {grove.Of(`{("a", "b"): 1}`), 1}, {grove.Of(`.["a":]`), 1}, {grove.Of(`{"\("a")": 1}`), 2},
			// Patterns' keys.
			{grove.Of(`. as {a: $x, "b": $y} | 1`), 0}, {grove.Of(`. as {a: $x, "b c": $y} | 1`), 1}, {grove.Of(`. as {"": $x} | 1`), 1}, {grove.Of(`. as {"a b": {"c d": {"e f": $x}}} | 1`), 1}, {grove.Of(`reduce . as [{"1": $x}] (1; 2)`), 1}, {grove.Of(`foreach . as {if: {"a ": $x}} (1; "a")`), 1}, {grove.Of(`. as {"a b": $x} | "\("a")"`), 2},
		} {
			if c.texts > 0 {
				may(t, grove.Within(c.n, hold, 49-c.texts))
			}
			deepest := grove.Within(c.n, hold, 50-c.texts)
			if grove.Depth(deepest) > 200 {
				t.Errorf("%s is too deep", grove.Show(c.n))
			}
			right(t, deepest, modelText(deepest))
			there(t, deepest)
			wrong(t, hold(deepest), "a text in 50 others: "+grove.Show(c.n))
			wrong(t, grove.Neg(hold(deepest)), "- and a text in 50 others: "+grove.Show(c.n))
			wrong(t, grove.Node(api.NodeComma, "", f, hold(deepest)), "beside a text in 50 others: "+grove.Show(c.n))
		}
	}
	// Texts side by side are not in one another.
	may(t, grove.Text(slices.Repeat([]api.Node{grove.Text(grove.Name("a b"))}, 300)...))
	may(t, grove.Within(grove.Name("a"), func(n api.Node) api.Node { return grove.Node(api.NodePipe, "", grove.Text(), n) }, 198))
}
