package grove

import (
	"math"
	"slices"
	"strings"

	"lorgnette/api"
)

// Wrong are trees that may not be, each for one cause alone.
func Wrong() []api.Node {
	return slices.Concat(ofNoKind(), withTexts(), ofWrongTexts(), ofWrongNumbers(), ofWrongNames(), ofWrongKids(), ofWrongParts(), ofWrongPatterns(), tooDeep(), tooManyTexts())
}

// WrongWithin are trees that may not be, also where what may not be stands in others, as any kid of theirs.
func WrongWithin() []api.Node {
	l := Wrong()
	for _, n := range Wrong() {
		l = append(l, holders(n)...)
	}
	return l
}

// holders are nodes of all kinds in which one stands where a filter may.
func holders(n api.Node) []api.Node {
	f, p := Self(), Var("x")
	l := []api.Node{
		Text(n), Text(Part("a"), f, n, Part("b")), Node(api.NodeText, "@csv", n), Node(api.NodeArray, "", n),
		Node(api.NodeObject, "", Entry(n, f)), Node(api.NodeObject, "", Entry(f, f), Entry(f, n)),
		Node(api.NodeIndex, "", n, Name("a")), Node(api.NodeIndex, "", f, n), Node(api.NodeEach, "", n), Neg(n),
		Node(api.NodeSlice, "", n, f, f), Node(api.NodeSlice, "", n, None(), f), Node(api.NodeTry, "", n), Node(api.NodeTry, "", n, f), Node(api.NodeTry, "", f, n),
		Node(api.NodePipe, "", n, f), Node(api.NodePipe, "", f, n), Node(api.NodeComma, "", n, f), Node(api.NodeComma, "", f, n), Node(api.NodeOp, "+", n, f), Node(api.NodeOp, "//=", f, n),
		Node(api.NodeIf, "", n, f, f), Node(api.NodeIf, "", f, n, None()), Node(api.NodeReduce, "", n, p, f, f), Node(api.NodeReduce, "", f, p, n, f), Node(api.NodeReduce, "", f, p, f, n),
		Node(api.NodeForeach, "", n, p, f, f, f), Node(api.NodeForeach, "", f, p, n, f, None()), Node(api.NodeForeach, "", f, p, f, n, f),
		Node(api.NodeLabel, "a", n), Node(api.NodeBind, "", n, p, f), Node(api.NodeBind, "", f, p, n),
		Node(api.NodeCall, "f", n), Node(api.NodeCall, "f", f, n, f), Node(api.NodeDef, "f", Node(api.NodeParam, "a"), n, f), Node(api.NodeDef, "f", f, n),
	}
	if n.Kind != api.NodeNone { // where nothing may be said
		l = append(l, Node(api.NodeSlice, "", f, n, f), Node(api.NodeSlice, "", f, f, n), Node(api.NodeIf, "", f, f, n), Node(api.NodeForeach, "", f, p, f, f, n))
	}
	return l
}

// ofNoKind are no filters by their kinds.
func ofNoKind() []api.Node {
	f, p := Self(), Var("x")
	return []api.Node{
		{}, {Kind: -1}, {Kind: 33}, {Kind: math.MaxInt}, {Kind: math.MinInt}, {Kind: api.NodeSelf + 1<<8}, {Kind: api.NodeSelf - 1<<8},
		Entry(Name("a"), f), Node(api.NodeParam, "a"), p, Node(api.NodePatArr, "", p), Node(api.NodePatObj, "", Node(api.NodePatKey, "a", p)), Node(api.NodePatKey, "a", p),
		{Kind: 33, Kids: []api.Node{f}}, {Kids: []api.Node{f, f}},
	}
}

// withTexts have a Text that their kinds have none of, or kids.
func withTexts() []api.Node {
	f, p := Self(), Var("x")
	l := []api.Node{Num("1"), Node(api.NodeFormat, "@csv"), Node(api.NodeBreak, "a"), Node(api.NodeVar, "a"), f, Node(api.NodeAll, "")}
	for i := range l {
		l[i].Kids = []api.Node{f}
	}
	for _, n := range []api.Node{
		f, Node(api.NodeAll, ""), Node(api.NodeArray, ""), Node(api.NodeArray, "", f), Node(api.NodeObject, ""), Node(api.NodeIndex, "", f, f), Node(api.NodePipe, "", f, f), Node(api.NodeComma, "", f, f), Node(api.NodeSlice, "", f, f, f), Node(api.NodeEach, "", f), Neg(f), Node(api.NodeTry, "", f), Node(api.NodeIf, "", f, f, f), Node(api.NodeReduce, "", f, p, f, f), Node(api.NodeForeach, "", f, p, f, f, f), Node(api.NodeBind, "", f, p, f),
	} {
		for _, s := range []string{"a", ".", "+", "@csv", "1", " ", "\x00"} {
			n.Text = s
			l = append(l, n)
		}
	}
	return l
}

// ofWrongTexts have parts, formats, or signs that may not be.
func ofWrongTexts() []api.Node {
	f, a := Self(), Part("a")
	spoken := Part("a")
	spoken.Kids = []api.Node{f}
	l := []api.Node{
		Text(Part("")), Text(f, Part("")), Text(a, a), Text(f, a, Part("b"), f), Text(a, f, a, a), Text(spoken), Text(f, spoken), Text(None()), Text(a, None()), Text(Entry(f, f)), Text(Var("x")),
	}
	for _, s := range []string{"\xff", "a\x80", "\xc0\x80", "\xc3", "é\xe2\x82", "\xed\xa0\x80", "\xf4\x90\x80\x80"} {
		l = append(l, Name(s), Text(f, Part(s), f))
	}
	for _, s := range []string{"csv", "@", "@1", "@a b", "@a-", "@@a", " @a", "@a ", "@é", "$a", "a", " "} {
		l = append(l, Node(api.NodeText, s), Node(api.NodeText, s, a), Node(api.NodeFormat, s))
	}
	for _, s := range []string{"", ",", "|", "as", "?", ".", "..", ":", "a", "not", "&&", "===", "+ ", " +", "++", "=+", "<>", "AND", "?//"} {
		l = append(l, Node(api.NodeOp, s, f, f))
	}
	return append(l, Node(api.NodeFormat, ""))
}

func ofWrongNumbers() []api.Node {
	var l []api.Node
	for _, s := range []string{"", "-", "-1", "-0", "--1", "+1", "01", "00", "1.", ".5", "1e", "1e+", "1.e5", "1.5.5", "1e5.5", "0x1", "1 ", " 1", "1a", "a", "1_0", "٣", "1e10001", "1e-10001", "10e10000", "1e99999999999999999999", "Infinity", strings.Repeat("1", 401), "0." + strings.Repeat("0", 999)} {
		l = append(l, Num(s))
	}
	return l
}

// ofWrongNames are called by what is no name, or by a word of the language.
func ofWrongNames() []api.Node {
	f := Self()
	var l []api.Node
	for _, s := range []string{"", "1", "1a", "a b", "a-", "é", "aé", "$", "$a", "@a", ".a", "a.", " a", "a ", "a\x00", "\xff", "a::b"} {
		l = append(l, Node(api.NodeLabel, s, f), Node(api.NodeBreak, s), Node(api.NodeVar, s), Node(api.NodeCall, s), Node(api.NodeCall, s, f), Node(api.NodeDef, s, f, f), Node(api.NodeBind, "", f, Var(s), f))
		if s != "$a" {
			l = append(l, Node(api.NodeDef, "f", Node(api.NodeParam, s), f, f))
		}
		l = append(l, Node(api.NodeDef, "f", Node(api.NodeParam, "a"), Node(api.NodeParam, "$"+s+"-"), f, f))
	}
	for _, s := range []string{"and", "as", "break", "catch", "def", "elif", "else", "end", "foreach", "if", "label", "or", "reduce", "then", "try"} {
		l = append(l, Node(api.NodeCall, s), Node(api.NodeCall, s, f))
	}
	return append(l, Node(api.NodeDef, "f", Node(api.NodeParam, "$$a"), f, f))
}

// ofWrongKids have too few of them, too many, or some of other kinds.
func ofWrongKids() []api.Node {
	f, p, none, a := Self(), Var("x"), None(), Node(api.NodeParam, "a")
	said, spoken := None(), None()
	said.Text = "a"
	spoken.Kids = []api.Node{f}
	l := []api.Node{
		Node(api.NodeArray, "", f, f), Node(api.NodeArray, "", none), Node(api.NodeObject, "", f), Node(api.NodeObject, "", none), Node(api.NodeObject, "", Entry(f, f), f), Node(api.NodeSlice, "", f, none, none), Node(api.NodeSlice, "", none, f, f), Node(api.NodeSlice, "", f, said, f), Node(api.NodeSlice, "", f, f, spoken), Node(api.NodeIf, "", f, f, said), Node(api.NodeIf, "", f, f, spoken), Node(api.NodeForeach, "", f, p, f, f, said),
		Node(api.NodeBind, "", f, f, f), Node(api.NodeBind, "", p, f, f), Node(api.NodeBind, "", f, none, f), Node(api.NodeBind, "", f, p, p), Node(api.NodeReduce, "", f, f, f, f), Node(api.NodeForeach, "", f, f, f, f, f), Node(api.NodeReduce, "", p, p, f, f),
		Node(api.NodeDef, "f"), Node(api.NodeDef, "f", f), Node(api.NodeDef, "f", f, f, f), Node(api.NodeDef, "f", a, f), Node(api.NodeDef, "f", a, a), Node(api.NodeDef, "f", f, a, f), Node(api.NodeDef, "f", f, f, a), Node(api.NodeDef, "f", a, f, a, f, f), Node(api.NodeDef, "f", Node(api.NodeParam, "a", f), f, f), Node(api.NodeDef, "f", p, f, f), Node(api.NodeCall, "f", a), Node(api.NodeIndex, "", Part("a"), f), Node(api.NodeIndex, "", f, Part("a")),
	}
	for _, wrong := range []struct {
		kind   int
		text   string
		counts []int
	}{
		{api.NodeIndex, "", []int{0, 1, 3}}, {api.NodePipe, "", []int{0, 1, 3}}, {api.NodeComma, "", []int{0, 1, 3}}, {api.NodeOp, "+", []int{0, 1, 3}}, {api.NodeSlice, "", []int{0, 1, 2, 4}}, {api.NodeEach, "", []int{0, 2}}, {api.NodeNeg, "", []int{0, 2}}, {api.NodeTry, "", []int{0, 3}}, {api.NodeIf, "", []int{0, 1, 2, 4}}, {api.NodeLabel, "a", []int{0, 2}},
	} {
		for _, count := range wrong.counts {
			l = append(l, Node(wrong.kind, wrong.text, slices.Repeat([]api.Node{f}, count)...))
		}
	}
	return append(l, Node(api.NodeReduce, "", f, p, f), Node(api.NodeReduce, "", f, p, f, f, f), Node(api.NodeForeach, "", f, p, f, f), Node(api.NodeForeach, "", f, p, f, f, f, f), Node(api.NodeBind, "", f, p), Node(api.NodeBind, "", f, p, f, f), Node(api.NodeBind, ""))
}

// ofWrongParts have entries that may not be.
func ofWrongParts() []api.Node {
	f := Self()
	var l []api.Node
	for _, n := range []api.Node{Node(api.NodeEntry, "a", f, f), Node(api.NodeEntry, ""), Node(api.NodeEntry, "", f), Node(api.NodeEntry, "", f, f, f), Entry(Part("a"), f), Entry(f, Part("a")), Entry(None(), f), Entry(f, None()), Entry(Text(Part("")), f), Entry(Text(Part("a"), Part("b")), f), Entry(Text(Node(api.NodePart, "a", f)), f), Entry(Node(api.NodeText, "csv", Part("a")), f)} {
		l = append(l, Node(api.NodeObject, "", n), Node(api.NodeObject, "", Entry(f, f), n), Node(api.NodeObject, "", n, Entry(f, f)))
	}
	return l
}

func ofWrongPatterns() []api.Node {
	f, p := Self(), Var("x")
	key := Node(api.NodePatKey, "a", p)
	var l []api.Node
	for _, n := range []api.Node{
		Node(api.NodePatVar, "x", p), Node(api.NodePatArr, ""), Node(api.NodePatArr, "a", p), Node(api.NodePatArr, "", f), Node(api.NodePatArr, "", p, None()), Node(api.NodePatArr, "", p, key),
		Node(api.NodePatObj, ""), Node(api.NodePatObj, "a", key), Node(api.NodePatObj, "", p), Node(api.NodePatObj, "", key, p), Node(api.NodePatObj, "", Entry(Name("a"), p)), key, Part("x"), Node(api.NodeVar, "x"), {}, {Kind: 33},
		Node(api.NodePatObj, "", Node(api.NodePatKey, "a")), Node(api.NodePatObj, "", Node(api.NodePatKey, "a", p, p)), Node(api.NodePatObj, "", Node(api.NodePatKey, "a", f)), Node(api.NodePatObj, "", Node(api.NodePatKey, "a", key)), Node(api.NodePatObj, "", key, Node(api.NodePatKey, "\xff", p)), Node(api.NodePatObj, "", Node(api.NodePatKey, "é\xc3", p)),
	} {
		l = append(l, Node(api.NodeBind, "", f, n, f), Node(api.NodeReduce, "", f, n, f, f), Node(api.NodeForeach, "", f, n, f, f, None()), Node(api.NodeBind, "", f, Node(api.NodePatArr, "", p, n), f), Node(api.NodeBind, "", f, Node(api.NodePatObj, "", Node(api.NodePatKey, "a", n)), f))
	}
	return l
}

func tooDeep() []api.Node {
	return []api.Node{
		Within(Self(), Neg, 200), Within(Name("a"), Neg, 199), Within(Self(), Neg, 5000), Node(api.NodePipe, "", Self(), Within(Self(), Neg, 199)), Node(api.NodePipe, "", Within(Self(), Neg, 199), Self()),
		Endless(api.NodeNeg, 1), Endless(api.NodePipe, 2), Endless(api.NodeCall, 1), Endless(api.NodeText, 3), Node(api.NodeBind, "", Self(), Endless(api.NodePatArr, 2), Self()),
	}
}

// InText is a text in which a filter stands.
func InText(n api.Node) api.Node {
	return Text(n)
}

func tooManyTexts() []api.Node {
	deep := func(n api.Node) api.Node { return Within(n, InText, 50) }
	return []api.Node{
		deep(Text()), deep(Name("a")), deep(Name("a b")), deep(Neg(Name("a"))), deep(Node(api.NodeIndex, "", Name("a"), Self())), deep(Node(api.NodeIndex, "", Self(), Name("a b"))), deep(Node(api.NodeObject, "", Entry(Self(), Name("a")))), deep(Node(api.NodeObject, "", Entry(Text(), Self()))), deep(Node(api.NodeArray, "", Node(api.NodeText, "@csv", Part("a")))),
		deep(Node(api.NodeIndex, "", Self(), Node(api.NodeText, "@csv", Part("a")))), deep(Node(api.NodeBind, "", Self(), Node(api.NodePatObj, "", Node(api.NodePatKey, "a b", Var("x"))), Self())), Node(api.NodePipe, "", Text(), Within(Text(), InText, 50)),
	}
}
