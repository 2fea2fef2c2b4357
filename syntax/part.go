package syntax

import (
	"lorgnette/api"
)

// maxSize is how many nodes a tree may have: those of a greater one, of 48 bytes each, would be more bytes than the document speaks of.
const maxSize = (1<<31 - 1) / 48

// part is a node that is being put together, and what is known of all that stands within it. A part may stand in a tree in several places, as a key without a value does; nodes may share nothing, so that texts that stand in one another as such keys make a short filter a great tree: it is refused before it is made.
type part struct {
	kind  int
	text  string
	kids  []*part
	depth int
	size  int // how many nodes it makes; of more than maxSize, one more than that
}

// newPart puts a part together.
func newPart(kind int, text string, kids ...*part) *part {
	made := &part{kind: kind, text: text, kids: kids, size: 1}
	for _, kid := range kids {
		made.depth = max(made.depth, kid.depth)
		made.size = min(made.size+kid.size, maxSize+1)
	}
	made.depth++
	return made
}

// node is the node that a part stands for.
func (made *part) node() api.Node {
	n := api.Node{Kind: made.kind, Text: made.text}
	if len(made.kids) > 0 {
		n.Kids = make([]api.Node, len(made.kids))
	}
	for i, kid := range made.kids {
		n.Kids[i] = kid.node()
	}
	return n
}

// self is the input.
func self() *part {
	return newPart(api.NodeSelf, "")
}

// none stands for what isn't said.
func none() *part {
	return newPart(api.NodeNone, "")
}

// plain is a name as a text.
func plain(name string) *part {
	return newPart(api.NodeText, "", newPart(api.NodePart, name))
}

// index is what stands somewhere in something.
func index(of, which *part) *part {
	return newPart(api.NodeIndex, "", of, which)
}
