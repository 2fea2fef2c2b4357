package grove

import (
	"strconv"
	"strings"

	"lorgnette/api"
)

// Show is a tree as one text: no two trees have the same.
func Show(n api.Node) string {
	s := kindName(n.Kind)
	switch {
	case n.Text == "":
	case strings.ContainsAny(n.Text, " \t\n\v\f\r\"():"):
		s += ":" + strconv.Quote(n.Text)
	default:
		s += ":" + n.Text
	}
	if len(n.Kids) == 0 {
		return s
	}
	kids := make([]string, len(n.Kids))
	for i, kid := range n.Kids {
		kids[i] = Show(kid)
	}
	return s + "(" + strings.Join(kids, " ") + ")"
}

// kindName is a kind of nodes as messages tell it.
func kindName(kind int) string {
	names := [...]string{"?", ".", "..", "num", "text", "part", "format", "arr", "obj", "entry", "index", "slice", "each", "try", "neg", "pipe", "comma", "op", "if", "reduce", "foreach", "label", "break", "bind", "var", "call", "def", "param", "pvar", "parr", "pobj", "pkey", "none"}
	if kind < 0 || kind >= len(names) {
		return "?" + strconv.Itoa(kind)
	}
	return names[kind]
}
