package show

import (
	"strings"

	"lorgnette/api"
	"lorgnette/lex"
	"lorgnette/quote"
)

// writer lays down the text of a tree that may be.
type writer struct{ text strings.Builder }

// node writes a filter, a pattern, or a part of one.
func (w *writer) node(n api.Node) {
	switch n.Kind {
	case api.NodeText:
		w.quoted(n)
	case api.NodeArray, api.NodePatArr:
		w.row("[", n.Kids, ", ", "]")
	case api.NodeObject, api.NodePatObj:
		w.row("{", n.Kids, ", ", "}")
	case api.NodeEntry:
		w.entry(n.Kids[0], n.Kids[1])
	case api.NodePatKey:
		w.patternKey(n.Text)
		w.fill(": #", n.Kids...)
	case api.NodeIndex:
		w.index(n.Kids[0], n.Kids[1])
	case api.NodeCall:
		w.text.WriteString(n.Text)
		w.arguments(n.Kids)
	case api.NodeDef:
		params, rest := cutParams(n.Kids)
		w.text.WriteString("(def " + n.Text)
		w.arguments(params)
		w.fill(": #; #)", rest...)
	default:
		w.fill(shape(n), n.Kids...)
	}
}

// fill writes a shape, with a kid for each # in it.
func (w *writer) fill(shape string, kids ...api.Node) {
	for i, said := range strings.Split(shape, "#") {
		if i > 0 {
			w.node(kids[i-1])
		}
		w.text.WriteString(said)
	}
}

// row writes kids with signs between them, ahead, and behind.
func (w *writer) row(ahead string, kids []api.Node, between, behind string) {
	w.text.WriteString(ahead)
	for i, kid := range kids {
		if i > 0 {
			w.text.WriteString(between)
		}
		w.node(kid)
	}
	w.text.WriteString(behind)
}

// arguments writes what stands in ( ) behind a name, if anything does.
func (w *writer) arguments(kids []api.Node) {
	if len(kids) > 0 {
		w.row("(", kids, "; ", ")")
	}
}

// quoted writes a text.
func (w *writer) quoted(n api.Node) {
	if n.Text != "" {
		w.text.WriteString(n.Text + " ")
	}
	w.text.WriteString(`"`)
	for _, kid := range n.Kids {
		if kid.Kind == api.NodePart {
			said := quote.Quote(kid.Text)
			w.text.WriteString(said[1 : len(said)-1])
		} else {
			w.fill(`\(#)`, kid)
		}
	}
	w.text.WriteString(`"`)
}

// entry writes a key of an object, and what it has.
func (w *writer) entry(key, has api.Node) {
	if plain(key) {
		w.text.WriteString(key.Kids[0].Text)
	} else {
		w.fill("(#)", key)
	}
	w.fill(": #", has)
}

// patternKey writes a key of a pattern.
func (w *writer) patternKey(s string) {
	if !lex.Name(s) {
		s = quote.Quote(s)
	}
	w.text.WriteString(s)
}

// index writes what stands somewhere in something.
func (w *writer) index(of, which api.Node) {
	switch {
	case !plain(which):
		w.fill("#[#]", of, which)
	case of.Kind == api.NodeSelf:
		w.text.WriteString("." + which.Kids[0].Text)
	default:
		w.fill("#."+which.Kids[0].Text, of)
	}
}

// shape is how a node is written, with a # for each of its kids, in their order. (No # stands in a name, a number or a sign.)
func shape(n api.Node) string {
	switch n.Kind {
	case api.NodeSelf:
		return "."
	case api.NodeAll:
		return ".."
	case api.NodeNumber, api.NodeFormat, api.NodeParam:
		return n.Text
	case api.NodeVar, api.NodePatVar:
		return "$" + n.Text
	case api.NodeBreak:
		return "break $" + n.Text
	case api.NodeLabel:
		return "(label $" + n.Text + " | #)"
	case api.NodeOp:
		return "(# " + n.Text + " #)"
	case api.NodeSlice:
		return "#[#:#]"
	case api.NodeEach:
		return "#[]"
	case api.NodeNeg:
		return "(-#)"
	case api.NodePipe:
		return "(# | #)"
	case api.NodeComma:
		return "(#, #)"
	case api.NodeReduce:
		return "reduce # as # (#; #)"
	case api.NodeBind:
		return "(# as # | #)"
	}
	return openShape(n)
}

// openShape is how a node is written that may have something unsaid.
func openShape(n api.Node) string {
	all := len(n.Kids) > 0 && isSaid(n.Kids[len(n.Kids)-1])
	switch {
	case n.Kind == api.NodeTry && len(n.Kids) == 1:
		return "#?"
	case n.Kind == api.NodeTry:
		return "(try # catch #)"
	case n.Kind == api.NodeIf && all:
		return "if # then # else # end"
	case n.Kind == api.NodeIf:
		return "if # then # end"
	case n.Kind == api.NodeForeach && all:
		return "foreach # as # (#; #; #)"
	case n.Kind == api.NodeForeach:
		return "foreach # as # (#; #)"
	}
	return "" // nothing is said
}
