// Package grove has the trees of filters that the layers' tests are written with: made from few words, grown, held against each other, copied, spoilt and shown. No layer calls it.
package grove

import (
	"lorgnette/api"
	"lorgnette/syntax"
)

// Node is a node.
func Node(kind int, text string, kids ...api.Node) api.Node {
	return api.Node{Kind: kind, Text: text, Kids: kids}
}

// Self is the input.
func Self() api.Node {
	return Node(api.NodeSelf, "")
}

// None stands for what isn't said.
func None() api.Node {
	return Node(api.NodeNone, "")
}

// Num is a number.
func Num(s string) api.Node {
	return Node(api.NodeNumber, s)
}

// Part is what is said in a text.
func Part(s string) api.Node {
	return Node(api.NodePart, s)
}

// Text is a text.
func Text(kids ...api.Node) api.Node {
	return Node(api.NodeText, "", kids...)
}

// Name is a text in which one thing is said.
func Name(s string) api.Node {
	return Text(Part(s))
}

// Entry is an entry of an object.
func Entry(key, has api.Node) api.Node {
	return Node(api.NodeEntry, "", key, has)
}

// Var is a pattern that is a name.
func Var(s string) api.Node {
	return Node(api.NodePatVar, s)
}

// Of is the tree of a filter's text. A test that is written with any other text is wrong itself.
func Of(s string) api.Node {
	n, _, err := syntax.Parse(s)
	if err != api.OK {
		panic("no filter: " + s)
	}
	return n
}

// Within is a node within so many others, each of which is made around the one before.
func Within(n api.Node, around func(n api.Node) api.Node, levels int) api.Node {
	for range levels {
		n = around(n)
	}
	return n
}

// Neg is the opposite of a filter.
func Neg(n api.Node) api.Node {
	return Node(api.NodeNeg, "", n)
}

// Endless are nodes of a kind that have themselves as kids, so many times.
func Endless(kind, times int) api.Node {
	kids := make([]api.Node, times)
	for i := range kids {
		kids[i] = Node(kind, "", kids...)
	}
	return kids[0]
}

// Depth is how deep a tree is.
func Depth(n api.Node) int {
	deepest := 0
	for _, kid := range n.Kids {
		deepest = max(deepest, Depth(kid))
	}
	return 1 + deepest
}
