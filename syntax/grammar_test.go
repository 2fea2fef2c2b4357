package syntax_test

import (
	"maps"
	"slices"
	"strings"

	"lorgnette/api"
	"lorgnette/lex"
)

// grammar is the document's, in which alternatives that begin alike are one. A word is any name, a name none of the language's; a . of a suffix is one behind which a text, or a [, stands; "said" is what stands in a text.
const grammar = `
pipe    = 'def' word [ '(' param { ';' param } ')' ] ':' pipe ';' pipe | 'label' var '|' pipe | comma [ '|' pipe ]
param   = word | var
comma   = alt { ',' alt }
alt     = upd [ '//' alt ]
upd     = or [ ( '=' | '|=' | '+=' | '-=' | '*=' | '/=' | '%=' | '//=' ) or ]
or      = and { 'or' and }
and     = cmp { 'and' cmp }
cmp     = sum [ ( '==' | '!=' | '<' | '<=' | '>' | '>=' ) sum ]
sum     = prod { ( '+' | '-' ) prod }
prod    = neg { ( '*' | '/' | '%' ) neg }
neg     = '-' neg | bind
bind    = post [ 'as' pattern '|' pipe ]
post    = term { suffix }
suffix  = field | dottext text | [ dotopen ] '[' inner ']' | '?'
inner   = [ pipe [ colon [ pipe ] ] | colon pipe ]
term    = '.' [ text ] | '..' | field | number | text | format [ text ] | '(' pipe ')' | '[' [ pipe ] ']' | '{' [ entry { ',' entry } ] '}' | var | name [ '(' pipe { ';' pipe } ')' ] | 'if' pipe 'then' pipe { 'elif' pipe 'then' pipe } [ 'else' pipe ] 'end' | 'try' post [ 'catch' post ] | 'reduce' post 'as' pattern '(' pipe ';' pipe ')' | 'foreach' post 'as' pattern '(' pipe ';' pipe [ ';' pipe ] ')' | 'break' var
entry   = '(' pipe ')' ':' alt | ( word | text ) [ ':' alt ] | var
pattern = var | '[' pattern { ',' pattern } ']' | '{' patkey { ',' patkey } '}'
patkey  = ( word | open [ said ] shut ) ':' pattern | var
text    = open { said | in pipe out } shut
colon   = ':'
`

// expr is a part of the grammar: of kind 0 a row of others; '|': one of them; '[': them or nothing; '{': any number of times; 'a': what is called so.
type expr struct {
	kind byte
	name string
	kids []*expr
}

// rules are the grammar's, by their names.
var rules = readRules()

func readRules() map[string]*expr {
	all := map[string]*expr{}
	for line := range strings.Lines(strings.TrimSpace(grammar)) {
		words := strings.Fields(line)
		r := ruleReader{words[2:]}
		all[words[0]] = r.choice()
	}
	return all
}

// ruleReader goes through a rule's words.
type ruleReader struct{ words []string }

func (r *ruleReader) is(words ...string) bool {
	return len(r.words) > 0 && slices.Contains(words, r.words[0])
}

func (r *ruleReader) take() string {
	word := r.words[0]
	r.words = r.words[1:]
	return word
}

func (r *ruleReader) choice() *expr {
	e := &expr{kind: '|', kids: []*expr{r.row()}}
	for r.is("|") {
		r.take()
		e.kids = append(e.kids, r.row())
	}
	return e
}

func (r *ruleReader) row() *expr {
	e := &expr{}
	for len(r.words) > 0 && !r.is("|", ")", "]", "}") {
		word := r.take()
		if !strings.Contains("([{", word) {
			e.kids = append(e.kids, &expr{kind: 'a', name: word})
			continue
		}
		within := &expr{kind: word[0], kids: []*expr{r.choice()}}
		if word == "(" {
			within.kind = 0
		}
		e.kids = append(e.kids, within)
		r.take()
	}
	return e
}

// tokenKinds are the kinds of tokens that the grammar calls by a name, but for names themselves.
var tokenKinds = map[string]int{"field": api.TokField, "var": api.TokVar, "format": api.TokFormat, "number": api.TokNumber, "open": api.TokOpen, "said": api.TokText, "in": api.TokIn, "out": api.TokOut, "shut": api.TokShut}

// fits tells whether the first token of some is what the grammar calls so.
func fits(called string, l []api.Token) bool {
	if len(l) == 0 {
		return false
	}
	signOf := func(at int, sign string) bool {
		return at < len(l) && (l[at].Kind == api.TokOp || l[at].Kind == api.TokName) && l[at].Text == sign
	}
	switch called {
	case "word":
		return l[0].Kind == api.TokName
	case "name":
		return l[0].Kind == api.TokName && !lex.Word(l[0].Text)
	case "dottext":
		return signOf(0, ".") && len(l) > 1 && l[1].Kind == api.TokOpen
	case "dotopen":
		return signOf(0, ".") && signOf(1, "[")
	}
	if kind, ok := tokenKinds[called]; ok {
		return l[0].Kind == kind
	}
	return signOf(0, strings.Trim(called, "'"))
}

// begins tells whether a part of the grammar that isn't nothing goes on with the first token of some.
func (e *expr) begins(l []api.Token) bool {
	return slices.ContainsFunc(firstOf[e], func(called string) bool { return fits(called, l) })
}

// firstOf are the tokens that parts of the grammar begin with.
var firstOf = findFirst()

func findFirst() map[*expr][]string {
	all := map[*expr][]string{}
	for _, rule := range rules {
		rule.each(func(e *expr) {
			first := map[string]bool{}
			e.first(first)
			all[e] = slices.Sorted(maps.Keys(first))
		})
	}
	return all
}

// each goes through a part of the grammar and all that stands in it.
func (e *expr) each(do func(e *expr)) {
	do(e)
	for _, kid := range e.kids {
		kid.each(do)
	}
}

// first lays down the tokens that a part of the grammar begins with. (No rule begins with itself.)
func (e *expr) first(all map[string]bool) {
	switch {
	case e.kind == 'a' && rules[e.name] != nil:
		rules[e.name].first(all)
	case e.kind == 'a':
		all[e.name] = true
	}
	for _, kid := range e.kids {
		kid.first(all)
		if e.kind == 0 && !kid.mayBeNothing() {
			return
		}
	}
}

// mayBeNothing tells whether a part of the grammar may stand for no token.
func (e *expr) mayBeNothing() bool {
	switch {
	case e.kind == 'a' && rules[e.name] != nil:
		return rules[e.name].mayBeNothing()
	case e.kind == 'a':
		return false
	case e.kind == '|':
		return slices.ContainsFunc(e.kids, (*expr).mayBeNothing)
	case e.kind != 0:
		return true
	}
	return !slices.ContainsFunc(e.kids, func(kid *expr) bool { return !kid.mayBeNothing() })
}

// far is more rules than need stand in one another anywhere.
const far = 1000

// leastOf tells of each part of the grammar how many rules must stand in one another at least in what it stands for.
var leastOf = findLeast()

func findLeast() map[*expr]int {
	all := map[*expr]int{}
	for _, rule := range rules {
		rule.each(func(e *expr) { all[e] = far })
	}
	for turned := true; turned; {
		turned = false
		for e, was := range all {
			all[e] = e.least(all)
			turned = turned || all[e] != was
		}
	}
	return all
}

// least is how many rules must stand in one another, by what is known of the parts.
func (e *expr) least(known map[*expr]int) int {
	switch {
	case e.kind == 'a' && rules[e.name] != nil:
		return min(1+known[rules[e.name]], far)
	case e.kind == 'a', e.kind == '[', e.kind == '{':
		return 0
	}
	deepest, flattest := 0, far
	for _, kid := range e.kids {
		deepest, flattest = max(deepest, known[kid]), min(flattest, known[kid])
	}
	if e.kind == '|' {
		return flattest
	}
	return deepest
}

// spellings are what tokens that aren't signs may be.
var spellings = map[string][]string{"word": {"a", "b", "f", "_x1", "if", "and", "def", "end", "as"}, "name": {"f", "g", "_x1", "empty"}, "field": {"a", "b", "if", "_"}, "var": {"x", "y", "end"}, "format": {"@csv", "@json", "@if"}, "number": {"0", "1", "25", "1.50", "1e3", "2E-7"}, "said": {"a", "é𝄞", " ", "\n", `"`, `\`, ")", "]", "if", ":"}}

// speaker makes rows of tokens by the grammar: with no room left, the flattest ones.
type speaker struct {
	maker
	room int
}

// sentence is a row of tokens that a rule of the grammar stands for, not many more than there is room for.
func (m maker) sentence(rule string, room int) []api.Token {
	s := speaker{m, room}
	return s.made(rules[rule])
}

func (s *speaker) made(e *expr) []api.Token {
	switch {
	case e.kind == 'a' && rules[e.name] != nil:
		return s.made(rules[e.name])
	case e.kind == 'a':
		s.room--
		return []api.Token{s.token(e.name)}
	case e.kind == '|' && s.room > 0 && len(e.kids) <= 3: // the last of few leads on to all the others
		return s.made(e.kids[max(s.Intn(len(e.kids)), s.Intn(len(e.kids)))])
	case e.kind == '|' && s.room > 0:
		return s.made(e.kids[s.Intn(len(e.kids))])
	case e.kind == '|':
		return s.made(slices.MinFunc(e.kids, func(a, b *expr) int { return leastOf[a] - leastOf[b] }))
	}
	var l []api.Token
	for range s.times(e) {
		for _, kid := range e.kids {
			l = append(l, s.made(kid)...)
		}
	}
	return l
}

// times is how often what stands in a part of the grammar is to be made.
func (s *speaker) times(e *expr) int {
	switch {
	case e.kind == '[' && s.room > 0:
		return s.Intn(2)
	case e.kind == '{' && s.room > 0:
		return max(0, s.Intn(5)-2)
	case e.kind != 0:
		return 0
	}
	return 1
}

// token is one that the grammar calls so.
func (m maker) token(called string) api.Token {
	texts := spellings[called]
	switch {
	case called == "word" || called == "name":
		return api.Token{Kind: api.TokName, Text: m.one(texts)}
	case called == "dottext" || called == "dotopen":
		return api.Token{Kind: api.TokOp, Text: "."}
	case len(texts) > 0:
		return api.Token{Kind: tokenKinds[called], Text: m.one(texts)}
	case tokenKinds[called] > 0:
		return api.Token{Kind: tokenKinds[called]}
	case lex.Word(strings.Trim(called, "'")):
		return api.Token{Kind: api.TokName, Text: strings.Trim(called, "'")}
	}
	return api.Token{Kind: api.TokOp, Text: strings.Trim(called, "'")}
}
