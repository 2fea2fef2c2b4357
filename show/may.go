package show

import (
	"slices"

	"lorgnette/api"
	"lorgnette/lex"
)

// role is what a kid may be.
type role int

const (
	filter     role = iota
	key             // a filter, that is written without quotes, if it is a plain name
	optional        // a filter, or that nothing is said
	piece           // of a text: a filter, or what is said
	entry           // of an object
	param           // of a definition
	pattern         // what is bound by
	patternKey      // of a pattern
)

// maxTexts is how many texts may stand in one another.
const maxTexts = 50

// texts is how many texts a node stands in.
type texts int

// are tells whether kids are as many as there are roles, and may be these.
func (in texts) are(kids []api.Node, roles ...role) bool {
	if len(kids) != len(roles) {
		return false
	}
	for i, kid := range kids {
		if !in.is(kid, roles[i]) {
			return false
		}
	}
	return true
}

// all tells whether kids, however many they are, may be of one role.
func (in texts) all(kids []api.Node, asked role) bool {
	return !slices.ContainsFunc(kids, func(kid api.Node) bool { return !in.is(kid, asked) })
}

// is tells whether a kid may be what is asked.
func (in texts) is(n api.Node, asked role) bool {
	switch {
	case asked == key && plain(n):
		return true
	case asked == optional && n.Kind == api.NodeNone:
		return n.Text == "" && in.are(n.Kids)
	case asked == piece && n.Kind == api.NodePart:
		return n.Text != "" && sound(n.Text) && in.are(n.Kids)
	case asked == entry:
		return n.Kind == api.NodeEntry && n.Text == "" && in.are(n.Kids, key, filter)
	case asked == param:
		return n.Kind == api.NodeParam && isParam(n.Text) && in.are(n.Kids)
	case asked == pattern:
		return in.pattern(n)
	case asked == patternKey:
		return n.Kind == api.NodePatKey && sound(n.Text) && in.holdsKey(n.Text) && in.are(n.Kids, pattern)
	}
	return fitting(n.Kind, n.Text) && in.filter(n)
}

// filter tells whether a node is a filter by its kind and its kids.
func (in texts) filter(n api.Node) bool {
	switch n.Kind {
	case api.NodeSelf, api.NodeAll, api.NodeNumber, api.NodeFormat, api.NodeBreak, api.NodeVar:
		return in.are(n.Kids)
	case api.NodeText:
		return in < maxTexts && (in+1).all(n.Kids, piece) && !sideBySide(n.Kids)
	case api.NodeArray:
		return len(n.Kids) == 0 || in.are(n.Kids, filter)
	case api.NodeObject:
		return in.all(n.Kids, entry)
	case api.NodeIndex:
		return in.are(n.Kids, filter, key)
	case api.NodeSlice:
		return in.are(n.Kids, filter, optional, optional) && (isSaid(n.Kids[1]) || isSaid(n.Kids[2]))
	case api.NodeEach, api.NodeNeg, api.NodeLabel:
		return in.are(n.Kids, filter)
	case api.NodeTry:
		return in.are(n.Kids, filter) || in.are(n.Kids, filter, filter)
	case api.NodePipe, api.NodeComma, api.NodeOp:
		return in.are(n.Kids, filter, filter)
	case api.NodeIf:
		return in.are(n.Kids, filter, filter, optional)
	case api.NodeReduce:
		return in.are(n.Kids, filter, pattern, filter, filter)
	case api.NodeForeach:
		return in.are(n.Kids, filter, pattern, filter, filter, optional)
	case api.NodeBind:
		return in.are(n.Kids, filter, pattern, filter)
	case api.NodeCall:
		return in.all(n.Kids, filter)
	case api.NodeDef:
		params, rest := cutParams(n.Kids)
		return in.all(params, param) && in.are(rest, filter, filter)
	}
	return false
}

// pattern tells whether a node is a pattern.
func (in texts) pattern(n api.Node) bool {
	switch n.Kind {
	case api.NodePatVar:
		return lex.Name(n.Text) && in.are(n.Kids)
	case api.NodePatArr:
		return n.Text == "" && len(n.Kids) > 0 && in.all(n.Kids, pattern)
	case api.NodePatObj:
		return n.Text == "" && len(n.Kids) > 0 && in.all(n.Kids, patternKey)
	}
	return false
}

// holdsKey tells whether a pattern's key may stand in so many texts: one that is no name is a text as well, in which nothing stands.
func (in texts) holdsKey(s string) bool {
	return in < maxTexts || lex.Name(s)
}

// sideBySide tells whether two kids side by side are what is said in a text: they would be read as one.
func sideBySide(kids []api.Node) bool {
	for i := 1; i < len(kids); i++ {
		if kids[i-1].Kind == api.NodePart && kids[i].Kind == api.NodePart {
			return true
		}
	}
	return false
}

// isSaid tells whether something is said where nothing may be.
func isSaid(n api.Node) bool {
	return n.Kind != api.NodeNone
}

// cutParams cuts a definition's kids ahead of its body.
func cutParams(kids []api.Node) (params, rest []api.Node) {
	body := max(0, len(kids)-2)
	return kids[:body], kids[body:]
}

// plain tells whether a node is a plain name.
func plain(n api.Node) bool {
	if n.Kind != api.NodeText || n.Text != "" || len(n.Kids) != 1 {
		return false
	}
	part := n.Kids[0]
	return part.Kind == api.NodePart && lex.Name(part.Text) && len(part.Kids) == 0
}
