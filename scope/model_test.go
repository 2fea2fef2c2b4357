package scope_test

import (
	"slices"
	"strconv"
	"strings"

	"lorgnette/api"
)

// stand is a node, and in which of its kids something stands.
type stand struct {
	n   api.Node
	kid int
}

// modelFree are the names of a tree that may be that are used where none of the nodes around binds them.
func modelFree(n api.Node) []string {
	var names []string
	eachUse(n, nil, func(name string, within []stand) {
		if !isBound(name, within) && !slices.Contains(names, name) {
			names = append(names, name)
		}
	})
	return names
}

// isBound tells whether one of the nodes around binds a name.
func isBound(name string, within []stand) bool {
	return slices.ContainsFunc(within, func(s stand) bool { return slices.Contains(s.binds(), name) })
}

// eachUse tells each name that is used in a tree, in their order, and within which nodes.
func eachUse(n api.Node, within []stand, tell func(name string, within []stand)) {
	switch n.Kind {
	case api.NodeVar:
		tell("$"+n.Text, within)
	case api.NodeCall:
		tell(n.Text+"/"+strconv.Itoa(len(n.Kids)), within)
	case api.NodeBreak:
		tell("*"+n.Text, within)
	}
	for i, kid := range n.Kids {
		eachUse(kid, append(within, stand{n, i}), tell)
	}
}

// binds are the names that a node binds in one of its kids.
func (s stand) binds() []string {
	kids := s.n.Kids
	switch kind := s.n.Kind; {
	case kind == api.NodeBind && s.kid == 2, kind == api.NodeReduce && s.kid == 3, kind == api.NodeForeach && s.kid >= 3:
		return modelVariables(kids[1])
	case kind == api.NodeLabel:
		return []string{"*" + s.n.Text}
	case kind == api.NodeDef:
		params := kids[:len(kids)-2]
		names := []string{s.n.Text + "/" + strconv.Itoa(len(params))}
		for _, param := range params {
			if s.kid == len(kids)-2 {
				names = append(names, param.Text, strings.ReplaceAll(param.Text, "$", "")+"/0")
			}
		}
		return names
	}
	return nil
}

// modelVariables are the names of all variables in a pattern.
func modelVariables(n api.Node) []string {
	var names []string
	if n.Kind == api.NodePatVar {
		names = append(names, "$"+n.Text)
	}
	for _, kid := range n.Kids {
		names = append(names, modelVariables(kid)...)
	}
	return names
}
