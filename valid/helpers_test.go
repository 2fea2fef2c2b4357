package valid_test

import (
	"fmt"
	"math"
	"math/rand"
	"slices"
	"strings"
	"testing"
	"unicode/utf8"

	"lorgnette/api"
	"lorgnette/valid"
)

// grammar goes all ways through bytes that the document's words leave open.
type grammar struct {
	b   string
	far int // how far any of the ways has come: so many bytes begin what was asked for
}

// rule tells where what begins at a place may end.
type rule func(g *grammar, at int) []int

func set(chars string) rule {
	return func(g *grammar, at int) []int {
		if at == len(g.b) || !strings.Contains(chars, g.b[at:at+1]) {
			return nil
		}
		g.far = max(g.far, at+1)
		return []int{at + 1}
	}
}

// from is a byte of those from one to another.
func from(low, high int) rule {
	var chars []byte
	for c := low; c <= high; c++ {
		chars = append(chars, byte(c))
	}
	return set(string(chars))
}

func word(w string) rule {
	var all []rule
	for i := range len(w) {
		all = append(all, set(w[i:i+1]))
	}
	return seq(all...)
}

func seq(all ...rule) rule {
	return func(g *grammar, at int) []int {
		ends := []int{at}
		for _, r := range all {
			ends = through(g, ends, r)
		}
		return ends
	}
}

func either(all ...rule) rule {
	return func(g *grammar, at int) []int {
		var ends []int
		for _, r := range all {
			ends = append(ends, r(g, at)...)
		}
		return once(ends)
	}
}

// many is something any number of times.
func many(all ...rule) rule {
	return func(g *grammar, at int) []int {
		ends := []int{at}
		for last := ends; len(last) > 0; {
			last = through(g, last, seq(all...))
			ends = append(ends, last...)
		}
		return once(ends)
	}
}

func perhaps(all ...rule) rule {
	return either(seq(), seq(all...))
}

func through(g *grammar, places []int, r rule) []int {
	var ends []int
	for _, at := range places {
		ends = append(ends, r(g, at)...)
	}
	return once(ends)
}

func once(l []int) []int {
	slices.Sort(l)
	return slices.Compact(l)
}

var (
	blanks = many(set(" \t\n\r"))
	digit  = from('0', '9')
	number = seq(perhaps(set("-")), either(set("0"), seq(from('1', '9'), many(digit))), perhaps(set("."), digit, many(digit)), perhaps(set("eE"), perhaps(set("+-")), digit, many(digit)))
	hexa   = set("0123456789abcdefABCDEF")
	later  = from(128, 191)
	quoted = seq(set(`"`), many(either(
		from(32, 33), from(35, 91), from(93, 127),
		seq(from(194, 223), later),
		seq(from(224, 224), from(160, 191), later), seq(from(225, 236), later, later), seq(from(237, 237), from(128, 159), later), seq(from(238, 239), later, later),
		seq(from(240, 240), from(144, 191), later, later), seq(from(241, 243), later, later, later), seq(from(244, 244), from(128, 143), later, later),
		seq(set(`\`), set(`"\/bfnrt`)), seq(set(`\`), set("u"), hexa, hexa, hexa, hexa),
	)), set(`"`))
	plain = either(word("null"), word("true"), word("false"), number, quoted)
)

// text is a text, in which others stand so deep.
func text(deep int) rule {
	return func(g *grammar, at int) []int {
		if deep == 0 {
			return plain(g, at)
		}
		inner := text(deep - 1)
		item := seq(blanks, inner, blanks)
		entry := seq(blanks, quoted, blanks, set(":"), blanks, inner, blanks)
		array := seq(set("["), either(blanks, seq(item, many(set(","), item))), set("]"))
		object := seq(set("{"), either(blanks, seq(entry, many(set(","), entry))), set("}"))
		return either(plain, array, object)(g, at)
	}
}

func stream(deep int) rule {
	return seq(blanks, perhaps(text(deep), many(set(" \t\n\r"), blanks, text(deep))), blanks)
}

// deepOf is how deep texts may stand in one another, where it is said so.
func deepOf(depth int) int {
	return min(max(depth, 0), 200)
}

// begins tells how many bytes begin what a rule asks for, and whether all of them are that.
func begins(b string, r rule) (int, bool) {
	g := grammar{b: b}
	ends := r(&g, 0)
	return g.far, slices.Contains(ends, len(b))
}

// modelOf is what Check should tell.
func modelOf(b string, depth int) ([]api.Span, api.Fault) {
	deep := deepOf(depth)
	k, whole := begins(b, stream(deep))
	if !whole && k < len(b) { // perhaps within a code point: then it is its first byte that counts
		for !utf8.ValidString(b[:k]) {
			k--
		}
	}
	why := api.WhyByte
	switch {
	case whole:
		why = api.WhyNone
	case k == len(b):
		why = api.WhyEnd
	case b[k] == '[' || b[k] == '{':
		if deeper, _ := begins(b[:k+1], stream(deep+1)); deeper == k+1 {
			why = api.WhyDepth
		}
	}
	return spansOf(b[:k], deep, b, whole), api.Fault{At: k, Why: why}
}

// spansOf tells of the texts that are whole in the first bytes of b.
func spansOf(first string, deep int, b string, whole bool) []api.Span {
	var l []api.Span
	for at := 0; at < len(first); {
		if strings.Contains(" \t\n\r", first[at:at+1]) {
			at++
			continue
		}
		end := -1
		for _, e := range text(deep)(&grammar{b: first}, at) {
			if !strings.Contains("-0123456789", first[at:at+1]) || e < len(b) && strings.Contains(" \t\n\r", b[e:e+1]) || e == len(b) && whole {
				end = e
			}
		}
		if end < 0 {
			break
		}
		l = append(l, api.Span{From: at, To: end})
		at = end
	}
	return l
}

func isOne(b string) bool {
	_, whole := begins(b, text(200))
	return whole
}

// hold asks for a stream, and for one text.
func hold(t *testing.T, b string, depth int) {
	t.Helper()
	spans, fault := valid.Check([]byte(b), depth)
	if wantSpans, want := modelOf(b, depth); !slices.Equal(spans, wantSpans) || fault != want {
		t.Errorf("Check(%s, %d): %v, %v, not %v, %v", name(b), depth, spans, fault, wantSpans, want)
	}
	holdOne(t, b)
}

func holdOne(t *testing.T, b string) {
	t.Helper()
	if one := valid.One([]byte(b)); one != isOne(b) {
		t.Errorf("One(%s): %v", name(b), one)
	}
}

func name(b string) string {
	if len(b) > 100 {
		return fmt.Sprintf("%q.. %q", b[:40], b[len(b)-40:])
	}
	return fmt.Sprintf("%q", b)
}

// depths are those that tests ask for.
func depths() []int {
	return []int{math.MinInt, -1, 0, 1, 2, 3, 199, 200, 201, math.MaxInt}
}

// parts are what tests put streams together of, right and wrong.
func parts() []string {
	return []string{
		"null", "true", "false", "0", "-0", "12", "-1.50e+3", "1E5", "9e-0", `""`, `"a"`, `"\"]"`, `"\\"`, `"äé€😀"`, `"\ud834\udd1e"`, `"\ud834"`, "[]", "{}", "[ ]", "{\n}", "[1]", "[[]]", `{"a":1}`, `{"a":{"b":[]},"a":2}`, "[1,2]", `[ 1 , "x" ]`, `{ "a" : 1 , "b" : 2 }`,
		" ", "\t", "\n", "\r", " \r\n\t ", "[", "]", "{", "}", ",", ":", `"a":`, `"`, `\`, "-", ".", "e", "+", "1", "1.", "1e", "01", "nul", "tru", "fals", "nulll", "True", "NaN", "'a'", "//", "\x00", "\v", "\f", "\u00a0", "\u2028", "\ufeff", "\xff", "\"\xe2\x82", "\"\xe2\x82\"", "\"\xed\xa0\x80\"", "\"\xf0\x9f", "\"\xc0\x80\"", "\"\n\"", `"\x"`, `"\u12`, `"\u12g4"`,
	}
}

// streams are some that are right, and many that are not: each part alone and in others, each two and some in a row, and right ones with one byte turned, left out, or put in; the same at each run.
func streams() []string {
	all := []string{""}
	for _, p := range parts() {
		all = append(all, p, " "+p, p+" ", p+p, "["+p, "["+p+"]", "[ "+p+" ]", "[1,"+p+"]", "{"+p, `{"a":`+p+"}", `{"a" : `+p+" }", `{"a":1,`+p, `[{"a":[`+p, "1 "+p, "1 "+p+" ", "true"+p, p+"true", "[]"+p)
		for _, q := range parts() {
			all = append(all, p+q, p+" "+q, "["+p+","+q+"]", p+" "+p+" "+q)
		}
	}
	chance := rand.New(rand.NewSource(9))
	for range 6000 {
		b := ""
		for range chance.Intn(9) {
			b += parts()[chance.Intn(len(parts()))]
		}
		all = append(all, b, turned(chance, anyStream(chance)))
	}
	return all
}

// anyStream is one that is right.
func anyStream(chance *rand.Rand) string {
	b := anyBlanks(chance)
	for range chance.Intn(4) {
		b += anyText(chance, chance.Intn(4)) + " " + anyBlanks(chance)
	}
	return b
}

func anyText(chance *rand.Rand, deep int) string {
	kind := chance.Intn(4)
	if deep == 0 || kind == 0 {
		return parts()[chance.Intn(16)]
	}
	open, end, l := "[", "]", []string{}
	for range chance.Intn(4) {
		item := anyBlanks(chance) + anyText(chance, deep-1) + anyBlanks(chance)
		if kind == 1 {
			item = anyBlanks(chance) + parts()[9+chance.Intn(7)] + anyBlanks(chance) + ":" + item
		}
		l = append(l, item)
	}
	if kind == 1 {
		open, end = "{", "}"
	}
	if len(l) == 0 {
		l = append(l, anyBlanks(chance))
	}
	return open + strings.Join(l, ",") + end
}

func anyBlanks(chance *rand.Rand) string {
	return []string{"", "", "", " ", "\n", "\t\r "}[chance.Intn(6)]
}

// turned is what b would be with something else at a place, or nothing, or something more.
func turned(chance *rand.Rand, b string) string {
	at := chance.Intn(len(b) + 1)
	next := min(at+1, len(b))
	part := parts()[chance.Intn(len(parts()))]
	return []string{b, b[:at], b[:at] + b[next:], b[:at] + part + b[at:], b[:at] + part + b[next:], b[:at] + string([]byte{byte(chance.Intn(256))}) + b[next:]}[chance.Intn(6)]
}
