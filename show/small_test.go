package show_test

import (
	"testing"

	"lorgnette/api"
	"lorgnette/grove"
)

// someTexts are what a node's Text may be, for one kind or another, or for none.
var someTexts = []string{"", "a", "if", "1", "-1", "+", "and", "@a", "@if", "$a", "a b", "\xff"}

// someKids are nodes of all roles that a kid may have, and of none.
func someKids() []api.Node {
	p := grove.Var("x")
	return []api.Node{grove.Self(), grove.Num("1"), grove.Name("a"), grove.Name("a b"), grove.Part("a"), grove.Part(""), grove.None(), grove.Entry(grove.Self(), grove.Self()), grove.Node(api.NodeParam, "a"), grove.Node(api.NodeParam, "$a"), p, grove.Node(api.NodePatArr, "", p), grove.Node(api.NodePatKey, "a", p), grove.Node(api.NodePatKey, "a b", p), {}, grove.Neg(api.Node{})}
}

// rowsOf are all rows of at most so many kids.
func rowsOf(kids []api.Node, most int) [][]api.Node {
	all := [][]api.Node{nil}
	from := 0
	for range most {
		to := len(all)
		for _, row := range all[from:to] {
			for _, kid := range kids {
				all = append(all, append(row[:len(row):len(row)], kid))
			}
		}
		from = to
	}
	return all
}

// TestSmall holds all small nodes of all kinds against the model: all Texts with up to two kids, and those Texts that the kind may have with more.
func TestSmall(t *testing.T) {
	t.Parallel()
	few, many := rowsOf(someKids(), 2), rowsOf(someKids()[:13], 3)
	for kind := -1; kind <= 34; kind++ {
		for _, text := range someTexts {
			rows := few
			if matches(table[kind].text, text) && text != "if" && text != "$a" {
				rows = many
			}
			for _, kids := range rows {
				held(t, grove.Node(kind, text, kids...))
				if t.Failed() {
					return
				}
			}
		}
	}
}

// TestSmallWithin holds small nodes that are no filters against the model, where such nodes stand.
func TestSmallWithin(t *testing.T) {
	t.Parallel()
	f := grove.Self()
	for _, kind := range []int{api.NodePart, api.NodeEntry, api.NodeParam, api.NodePatVar, api.NodePatArr, api.NodePatObj, api.NodePatKey, api.NodeNone} {
		for _, text := range someTexts {
			for _, kids := range rowsOf(someKids(), 2) {
				n := grove.Node(kind, text, kids...)
				for _, holder := range []api.Node{
					grove.Text(n), grove.Text(f, n), grove.Text(n, grove.Part("a")), grove.Node(api.NodeObject, "", n), grove.Node(api.NodeDef, "f", n, f, f), grove.Node(api.NodeDef, "f", grove.Node(api.NodeParam, "a"), n, f, f), grove.Node(api.NodeBind, "", f, n, f), grove.Node(api.NodeBind, "", f, grove.Node(api.NodePatArr, "", grove.Var("x"), n), f), grove.Node(api.NodeBind, "", f, grove.Node(api.NodePatObj, "", n), f), grove.Node(api.NodeBind, "", f, grove.Node(api.NodePatObj, "", grove.Node(api.NodePatKey, "a", n)), f), grove.Node(api.NodeIf, "", f, f, n), grove.Node(api.NodeSlice, "", f, n, f), grove.Node(api.NodeSlice, "", f, f, n), grove.Node(api.NodeForeach, "", f, grove.Var("x"), f, f, n), grove.Node(api.NodeIndex, "", f, n), grove.Node(api.NodeIndex, "", f, grove.Text(n)), grove.Node(api.NodeObject, "", grove.Entry(grove.Text(n), f)),
				} {
					held(t, holder)
				}
			}
		}
	}
}

// TestSmallBinders holds all nodes that bind names against the model, with as many kids as they have, one fewer, and one more.
func TestSmallBinders(t *testing.T) {
	t.Parallel()
	p := grove.Var("x")
	kids := []api.Node{grove.Self(), p, grove.None(), grove.Node(api.NodeParam, "a"), grove.Node(api.NodePatKey, "a", p)}
	for _, row := range rowsOf(kids, 6) {
		for _, kind := range []int{api.NodeReduce, api.NodeForeach, api.NodeBind, api.NodeIf, api.NodeSlice} {
			held(t, grove.Node(kind, "", row...))
		}
		held(t, grove.Node(api.NodeDef, "f", row...))
	}
}
