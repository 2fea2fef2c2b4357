package grove

import (
	"lorgnette/api"
)

// Grow is a tree that may be, of some room nodes: pick(n) picks a number from 0 to ahead of n.
func Grow(pick func(n int) int, room int) api.Node {
	g := grower{pick, room}
	return g.filter()
}

// GrowPattern is a pattern, likewise.
func GrowPattern(pick func(n int) int, room int) api.Node {
	g := grower{pick, room}
	return g.pattern()
}

// grower grows trees: with no room left, those without kids.
type grower struct {
	pick func(n int) int
	room int
}

// one is one of some texts.
func (g *grower) one(l ...string) string {
	return l[g.pick(len(l))]
}

// name is a name, few of which are words of the language.
func (g *grower) name() string {
	return g.one("a", "b", "x", "y", "f", "g", "_x1", "E5", "if", "end")
}

// ownName is a name that is no word of the language.
func (g *grower) ownName() string {
	return g.one("a", "b", "x", "f", "g", "empty", "_")
}

// sign is a sign of two sides.
func (g *grower) sign() string {
	return g.one("//", "=", "|=", "+=", "-=", "*=", "/=", "%=", "//=", "or", "and", "==", "!=", "<", "<=", ">", ">=", "+", "-", "*", "/", "%")
}

// said is what stands in a text, or is a key.
func (g *grower) said() string {
	return g.one("a", "b", "if", "a b", "é𝄞", " ", "\n", "\x00\x7f", `"`, `\`, `\(`, "#", "1", ")", "$x", "@csv", "\u2028\ufffd")
}

// times is how many kids there are, least at least.
func (g *grower) times(least int) int {
	if g.room <= 0 {
		return least
	}
	return max(least, g.pick(6)-2)
}

// row are some nodes, least at least.
func (g *grower) row(least int, grown func() api.Node) []api.Node {
	var l []api.Node
	for range g.times(least) {
		l = append(l, grown())
	}
	return l
}

// maybe is a filter, or that nothing is said.
func (g *grower) maybe() api.Node {
	if g.room <= 0 || g.pick(2) == 0 {
		return None()
	}
	return g.filter()
}

func (g *grower) filter() api.Node {
	g.room--
	if g.room <= 0 || g.pick(4) == 0 {
		return g.leaf()
	}
	switch g.pick(3) {
	case 0:
		return g.suffixed()
	case 1:
		return g.binder()
	}
	return g.branch()
}

// leaf is a filter without kids.
func (g *grower) leaf() api.Node {
	switch g.pick(11) {
	case 0:
		return Node(api.NodeAll, "")
	case 1:
		return Num(g.one("0", "1", "25", "1.50", "1e3", "2E-07", "0.0e99999"))
	case 2:
		return Text()
	case 3:
		return Name(g.said())
	case 4:
		return Node(api.NodeFormat, "@"+g.name())
	case 5:
		return Node(api.NodeArray, "")
	case 6:
		return Node(api.NodeObject, "")
	case 7:
		return Node(api.NodeBreak, g.name())
	case 8:
		return Node(api.NodeVar, g.name())
	case 9:
		return Node(api.NodeCall, g.ownName())
	}
	return Self()
}

// suffixed is a filter with a suffix.
func (g *grower) suffixed() api.Node {
	of := g.filter()
	switch g.pick(7) {
	case 0, 1:
		return Node(api.NodeIndex, "", of, Name(g.name()))
	case 2:
		return Node(api.NodeIndex, "", of, g.filter())
	case 3:
		return Node(api.NodeEach, "", of)
	case 4:
		return Node(api.NodeTry, "", of)
	case 5:
		return Node(api.NodeSlice, "", of, g.filter(), g.maybe())
	}
	return Node(api.NodeSlice, "", of, None(), g.filter())
}

// branch is any other filter that has kids.
func (g *grower) branch() api.Node {
	switch g.pick(11) {
	case 0:
		return g.text()
	case 1:
		return Node(api.NodeArray, "", g.filter())
	case 2:
		return Node(api.NodeObject, "", g.row(1, g.entry)...)
	case 3:
		return Neg(g.filter())
	case 4:
		return Node(api.NodePipe, "", g.filter(), g.filter())
	case 5:
		return Node(api.NodeComma, "", g.filter(), g.filter())
	case 6:
		return Node(api.NodeIf, "", g.filter(), g.filter(), g.maybe())
	case 7:
		return Node(api.NodeTry, "", g.filter(), g.filter())
	case 8:
		return Node(api.NodeCall, g.ownName(), g.row(1, g.filter)...)
	}
	return Node(api.NodeOp, g.sign(), g.filter(), g.filter())
}

// binder is a filter that binds names.
func (g *grower) binder() api.Node {
	switch g.pick(5) {
	case 0:
		return Node(api.NodeReduce, "", g.filter(), g.pattern(), g.filter(), g.filter())
	case 1:
		return Node(api.NodeForeach, "", g.filter(), g.pattern(), g.filter(), g.filter(), g.maybe())
	case 2:
		return Node(api.NodeLabel, g.name(), g.filter())
	case 3:
		return Node(api.NodeBind, "", g.filter(), g.pattern(), g.filter())
	}
	return Node(api.NodeDef, g.name(), append(g.row(0, g.param), g.filter(), g.filter())...)
}

// text is a text in which something is said, or filters stand.
func (g *grower) text() api.Node {
	n := Text()
	if g.pick(3) == 0 {
		n.Text = "@" + g.name()
	}
	parted := false // whether something was said last
	for range g.times(1) {
		parted = !parted && g.pick(2) == 0
		if parted {
			n.Kids = append(n.Kids, Part(g.said()))
		} else {
			n.Kids = append(n.Kids, g.filter())
		}
	}
	return n
}

func (g *grower) entry() api.Node {
	if g.pick(2) == 0 {
		return Entry(Name(g.name()), g.filter())
	}
	return Entry(g.filter(), g.filter())
}

func (g *grower) param() api.Node {
	return Node(api.NodeParam, g.one("", "$")+g.name())
}

func (g *grower) pattern() api.Node {
	g.room--
	switch {
	case g.room <= 0 || g.pick(2) == 0:
		return Var(g.name())
	case g.pick(2) == 0:
		return Node(api.NodePatArr, "", g.row(1, g.pattern)...)
	}
	return Node(api.NodePatObj, "", g.row(1, g.patternKey)...)
}

func (g *grower) patternKey() api.Node {
	key := g.one("", g.name(), g.said())
	return Node(api.NodePatKey, key, g.pattern())
}
