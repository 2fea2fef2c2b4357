package scope

import "lorgnette/api"

// finder goes through a tree that may be, for the names that are used where nobody has bound them.
type finder struct {
	names []string // in the order in which they stand
	found map[string]struct{}
}

// look goes through nodes, one behind another, where the same names are bound.
func (f *finder) look(around *bound, nodes ...api.Node) {
	for _, n := range nodes {
		if name := used(n); name != "" {
			f.use(around, name)
		}
		f.lookWithin(around, n)
	}
}

// lookWithin goes through a node's kids, but for patterns and params, in which no name is used.
func (f *finder) lookWithin(around *bound, n api.Node) {
	kids := n.Kids
	switch n.Kind {
	case api.NodeBind:
		f.look(around, kids[0])
		f.look(around.bind(variables(nil, kids[1])...), kids[2])
	case api.NodeReduce, api.NodeForeach:
		f.look(around, kids[0], kids[2])
		f.look(around.bind(variables(nil, kids[1])...), kids[3:]...)
	case api.NodeLabel:
		f.look(around.bind(label(n.Text)), kids...)
	case api.NodeDef:
		body := len(kids) - 2
		defined := around.bind(function(n.Text, body))
		f.look(defined.bind(parameters(kids[:body])...), kids[body])
		f.look(defined, kids[body+1])
	default:
		f.look(around, kids...)
	}
}

// use takes down a name that is used, if nobody has bound it there.
func (f *finder) use(around *bound, name string) {
	if _, ok := f.found[name]; ok || around.has(name) {
		return
	}
	f.found[name] = struct{}{}
	f.names = append(f.names, name)
}
