package grove

import (
	"slices"

	"lorgnette/api"
)

// Same tells whether two trees are the same in every field; nil and empty are.
func Same(a, b api.Node) bool {
	return a.Kind == b.Kind && a.Text == b.Text && slices.EqualFunc(a.Kids, b.Kids, Same)
}

// Twin is a tree that shares nothing with the one it is made from.
func Twin(n api.Node) api.Node {
	kids := make([]api.Node, len(n.Kids))
	for i, kid := range n.Kids {
		kids[i] = Twin(kid)
	}
	n.Kids = kids
	return n
}

// Spoil writes over all that a tree's lists hold, also behind their ends.
func Spoil(n api.Node) {
	kids := n.Kids[:cap(n.Kids)]
	for i := range kids {
		Spoil(kids[i])
		kids[i] = Node(-1, "spoilt")
	}
}

// Each goes through all nodes of a tree, those of a kid ahead of those of the next one.
func Each(n *api.Node, do func(n *api.Node)) {
	do(n)
	for i := range n.Kids {
		Each(&n.Kids[i], do)
	}
}
