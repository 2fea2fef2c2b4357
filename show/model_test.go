package show_test

import (
	"fmt"
	"regexp"
	"strings"

	"lorgnette/api"
	"lorgnette/dec"
	"lorgnette/grove"
	"lorgnette/quote"
)

// form is a row of the document's table: which Text a kind has, and which kids. Each kid is told by a letter: f a filter, p a pattern, n NodeNone, s NodePart, e NodeEntry, a NodeParam, k NodePatKey, ? any other one.
type form struct {
	letter     byte
	text, kids string
}

const (
	name   = `[a-zA-Z_][a-zA-Z_0-9]*`
	number = `(0|[1-9][0-9]*)(\.[0-9]+)?([eE][+-]?[0-9]+)?`
)

// table is the document's.
var table = map[int]form{
	api.NodeSelf:    {'f', "", ""},
	api.NodeAll:     {'f', "", ""},
	api.NodeNumber:  {'f', number, ""},
	api.NodeText:    {'f', "(@" + name + ")?", "s?(f+s?)*"},
	api.NodeFormat:  {'f', "@" + name, ""},
	api.NodeArray:   {'f', "", "f?"},
	api.NodeObject:  {'f', "", "e*"},
	api.NodeIndex:   {'f', "", "ff"},
	api.NodePipe:    {'f', "", "ff"},
	api.NodeComma:   {'f', "", "ff"},
	api.NodeSlice:   {'f', "", "f(ff|fn|nf)"},
	api.NodeEach:    {'f', "", "f"},
	api.NodeNeg:     {'f', "", "f"},
	api.NodeTry:     {'f', "", "f|ff"},
	api.NodeOp:      {'f', `//|=|\|=|\+=|-=|\*=|/=|%=|//=|or|and|==|!=|<|<=|>|>=|\+|-|\*|/|%`, "ff"},
	api.NodeIf:      {'f', "", "ff(f|n)"},
	api.NodeReduce:  {'f', "", "fpff"},
	api.NodeForeach: {'f', "", "fpff(f|n)"},
	api.NodeLabel:   {'f', name, "f"},
	api.NodeBreak:   {'f', name, ""},
	api.NodeVar:     {'f', name, ""},
	api.NodeBind:    {'f', "", "fpf"},
	api.NodeCall:    {'f', name, "f*"},
	api.NodeDef:     {'f', name, "a*ff"},
	api.NodePart:    {'s', `(?s).+`, ""},
	api.NodeEntry:   {'e', "", "ff"},
	api.NodeParam:   {'a', `\$?` + name, ""},
	api.NodePatVar:  {'p', name, ""},
	api.NodePatArr:  {'p', "", "p+"},
	api.NodePatObj:  {'p', "", "k+"},
	api.NodePatKey:  {'k', `(?s).*`, "p"},
	api.NodeNone:    {'n', "", ""},
}

const words = "and|as|break|catch|def|elif|else|end|foreach|if|label|or|reduce|then|try"

// patterns are those that were made.
var patterns = map[string]*regexp.Regexp{}

func init() {
	for _, f := range table {
		for _, s := range []string{f.text, f.kids} {
			patterns[s] = regexp.MustCompile("^(" + s + `)\z`)
		}
	}
	patterns[words] = regexp.MustCompile("^(" + words + `)\z`)
	patterns[name] = regexp.MustCompile("^(" + name + `)\z`)
}

func matches(pattern, s string) bool {
	return patterns[pattern].MatchString(s)
}

// modelMay is what May should tell of a tree that has an end.
func modelMay(n api.Node) bool {
	return grove.Depth(n) <= 200 && table[n.Kind].letter == 'f' && fits(n) && textsIn(n, false) <= 50
}

// fits tells whether all in a tree is as the table says.
func fits(n api.Node) bool {
	form, known := table[n.Kind]
	if !known || !matches(form.text, n.Text) || strings.ToValidUTF8(n.Text, "") != n.Text {
		return false
	}
	if _, err := dec.Parse(n.Text); n.Kind == api.NodeNumber && err != api.OK || n.Kind == api.NodeCall && matches(words, n.Text) {
		return false
	}
	var kids []byte
	for _, kid := range n.Kids {
		letter := table[kid.Kind].letter
		if !fits(kid) {
			letter = '?'
		}
		kids = append(kids, letter)
	}
	return matches(form.kids, string(kids))
}

// textsIn is how many texts stand in one another in a node; named: it stands where a plain name counts as none.
func textsIn(n api.Node, named bool) int {
	most := 0
	for i, kid := range n.Kids {
		most = max(most, textsIn(kid, n.Kind == api.NodeIndex && i == 1 || n.Kind == api.NodeEntry && i == 0))
	}
	switch {
	case n.Kind == api.NodeText && !(named && isPlain(n)):
		return 1 + most
	case n.Kind == api.NodePatKey && !matches(name, n.Text):
		return max(1, most)
	}
	return most
}

func isPlain(n api.Node) bool {
	return n.Kind == api.NodeText && n.Text == "" && len(n.Kids) == 1 && n.Kids[0].Kind == api.NodePart && matches(name, n.Kids[0].Text)
}

// spellings are the document's, of those kinds that have one alone: $ is the Text, and a number one of the kids.
var spellings = map[int]string{
	api.NodeSelf: ".", api.NodeAll: "..", api.NodeNumber: "$", api.NodeFormat: "$", api.NodeSlice: "1[2:3]", api.NodeEach: "1[]", api.NodeNeg: "(-1)", api.NodePipe: "(1 | 2)", api.NodeComma: "(1, 2)", api.NodeOp: "(1 $ 2)", api.NodeReduce: "reduce 1 as 2 (3; 4)", api.NodeLabel: "(label $$ | 1)", api.NodeBreak: "break $$", api.NodeBind: "(1 as 2 | 3)", api.NodeVar: "$$", api.NodePatVar: "$$", api.NodeParam: "$", api.NodeNone: "",
}

// modelText is the text of a node that may be.
func modelText(n api.Node) string {
	kids := make([]string, len(n.Kids))
	for i, kid := range n.Kids {
		kids[i] = modelText(kid)
	}
	last := len(kids) - 1
	switch n.Kind {
	case api.NodePart:
		said := quote.Quote(n.Text)
		return said[1 : len(said)-1]
	case api.NodeText:
		s := `"`
		for i, kid := range n.Kids {
			if kid.Kind == api.NodePart {
				s += kids[i]
			} else {
				s += `\(` + kids[i] + ")"
			}
		}
		if n.Text != "" {
			s = n.Text + " " + s
		}
		return s + `"`
	case api.NodeArray, api.NodePatArr:
		return "[" + strings.Join(kids, ", ") + "]"
	case api.NodeObject, api.NodePatObj:
		return "{" + strings.Join(kids, ", ") + "}"
	case api.NodeEntry:
		if isPlain(n.Kids[0]) {
			return n.Kids[0].Kids[0].Text + ": " + kids[1]
		}
		return "(" + kids[0] + "): " + kids[1]
	case api.NodePatKey:
		if matches(name, n.Text) {
			return n.Text + ": " + kids[0]
		}
		return quote.Quote(n.Text) + ": " + kids[0]
	case api.NodeIndex:
		switch {
		case !isPlain(n.Kids[1]):
			return kids[0] + "[" + kids[1] + "]"
		case n.Kids[0].Kind == api.NodeSelf:
			return "." + n.Kids[1].Kids[0].Text
		}
		return kids[0] + "." + n.Kids[1].Kids[0].Text
	case api.NodeTry:
		if len(kids) == 1 {
			return kids[0] + "?"
		}
		return fmt.Sprintf("(try %s catch %s)", kids[0], kids[1])
	case api.NodeIf:
		if n.Kids[2].Kind == api.NodeNone {
			return fmt.Sprintf("if %s then %s end", kids[0], kids[1])
		}
		return fmt.Sprintf("if %s then %s else %s end", kids[0], kids[1], kids[2])
	case api.NodeForeach:
		if n.Kids[4].Kind == api.NodeNone {
			return fmt.Sprintf("foreach %s as %s (%s; %s)", kids[0], kids[1], kids[2], kids[3])
		}
		return fmt.Sprintf("foreach %s as %s (%s; %s; %s)", kids[0], kids[1], kids[2], kids[3], kids[4])
	case api.NodeCall:
		return n.Text + inParens(kids)
	case api.NodeDef:
		return "(def " + n.Text + inParens(kids[:last-1]) + ": " + kids[last-1] + "; " + kids[last] + ")"
	}
	return spelt(spellings[n.Kind], n.Text, kids)
}

func inParens(l []string) string {
	if len(l) == 0 {
		return ""
	}
	return "(" + strings.Join(l, "; ") + ")"
}

// spelt is a spelling with its Text and kids. ($$ is a sign, and the Text behind it.)
func spelt(spelling, text string, kids []string) string {
	turned := []string{"$$", "$" + text, "$", text}
	for i, kid := range kids {
		turned = append(turned, fmt.Sprint(i+1), kid)
	}
	return strings.NewReplacer(turned...).Replace(spelling)
}
