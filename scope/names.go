package scope

import (
	"strconv"
	"strings"

	"lorgnette/api"
)

// variable is a variable's name.
func variable(s string) string {
	return "$" + s
}

// label is a label's name.
func label(s string) string {
	return "*" + s
}

// function is the name of a function of so many arguments.
func function(s string, arguments int) string {
	return s + "/" + strconv.Itoa(arguments)
}

// used is the name that a node itself uses: nothing, if it uses none.
func used(n api.Node) string {
	switch n.Kind {
	case api.NodeVar:
		return variable(n.Text)
	case api.NodeCall:
		return function(n.Text, len(n.Kids))
	case api.NodeBreak:
		return label(n.Text)
	}
	return ""
}

// variables puts the names that a pattern binds behind others.
func variables(names []string, pattern api.Node) []string {
	if pattern.Kind == api.NodePatVar {
		return append(names, variable(pattern.Text))
	}
	for _, kid := range pattern.Kids {
		names = variables(names, kid)
	}
	return names
}

// parameters are the names that a definition's params bind in its body.
func parameters(params []api.Node) []string {
	var names []string
	for _, param := range params {
		name, isValue := strings.CutPrefix(param.Text, "$")
		names = append(names, function(name, 0))
		if isValue {
			names = append(names, variable(name))
		}
	}
	return names
}
