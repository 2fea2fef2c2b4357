package cursor_test

import (
	"encoding/json"
	"fmt"
	"math/rand"
	"slices"
	"strings"
	"testing"
	"unicode/utf8"

	"lorgnette/api"
	"lorgnette/cursor"
	"lorgnette/dec"
	"lorgnette/sample"
)

// node is a text as a reader finds it that goes through its bytes one by one.
type node struct {
	api.Span
	kind int
	keys []string // of an object's entries
	kids []node
}

// nodeAt reads the text that begins at a place of bytes in which one does.
func nodeAt(b string, at int) node {
	n := node{Span: api.Span{From: at, To: at + 4}}
	switch b[at] {
	case 'n':
		n.kind = api.Null
	case 't':
		n.kind = api.True
	case 'f':
		n.kind = api.False
		n.To++
	case '"':
		n.kind = api.Text
		n.To = behindQuotes(b, at)
	case '[', '{':
		return inBrackets(b, at)
	default:
		n.kind = api.Number
		n.To = at + len(b[at:]) - len(strings.TrimLeft(b[at:], "0123456789+-.eE"))
	}
	return n
}

func inBrackets(b string, at int) node {
	n := node{Span: api.Span{From: at}, kind: api.Array}
	if b[at] == '{' {
		n.kind = api.Object
	}
	at = behindBlanks(b, at+1)
	for b[at] != ']' && b[at] != '}' {
		if n.kind == api.Object {
			end := behindQuotes(b, at)
			n.keys = append(n.keys, read(b[at:end]))
			at = behindBlanks(b, behindBlanks(b, end)+1)
		}
		kid := nodeAt(b, at)
		n.kids = append(n.kids, kid)
		at = behindBlanks(b, kid.To)
		if b[at] == ',' {
			at = behindBlanks(b, at+1)
		}
	}
	n.To = at + 1
	return n
}

func behindQuotes(b string, at int) int {
	for at++; b[at] != '"'; at++ {
		if b[at] == '\\' {
			at++
		}
	}
	return at + 1
}

func behindBlanks(b string, at int) int {
	return at + len(b[at:]) - len(strings.TrimLeft(b[at:], " \t\n\r"))
}

// read reads a text in quotes with the library.
func read(b string) string {
	var s string
	if err := json.Unmarshal([]byte(b), &s); err != nil {
		panic(err)
	}
	return s
}

// nodeOf is the part that a span of bytes is, if it is one.
func nodeOf(b string, s api.Span) (node, bool) {
	if s.From < 0 || s.To > len(b) || s.From >= s.To {
		return node{}, false
	}
	text := b[s.From:s.To]
	if text[0] <= ' ' || text[len(text)-1] <= ' ' || !utf8.ValidString(text) || !json.Valid([]byte(text)) {
		return node{}, false
	}
	n := nodeAt(b[:s.To], s.From)
	return n, n.depth() <= 200
}

func (n node) depth() int {
	if n.kind != api.Array && n.kind != api.Object {
		return 0
	}
	deepest := 0
	for _, kid := range n.kids {
		deepest = max(deepest, kid.depth())
	}
	return 1 + deepest
}

func (n node) spans() []api.Span {
	var l []api.Span
	for _, kid := range n.kids {
		l = append(l, kid.Span)
	}
	return l
}

// once are an object's keys, each where it stands first.
func (n node) once() []string {
	var l []string
	for _, key := range n.keys {
		if !slices.Contains(l, key) {
			l = append(l, key)
		}
	}
	return l
}

// last is what an object has for a key.
func (n node) last(key string) (node, bool) {
	for i := len(n.keys) - 1; i >= 0; i-- {
		if n.keys[i] == key {
			return n.kids[i], true
		}
	}
	return node{}, false
}

// value is the node's, if no number within is out of range.
func (n node) value(b string) (api.Value, api.Errno) {
	v, err := api.Value{Kind: n.kind}, api.OK
	switch n.kind {
	case api.Number:
		v.Num, err = dec.Parse(b[n.From:n.To])
	case api.Text:
		v.Str = read(b[n.From:n.To])
	}
	for _, kid := range n.kids {
		x, wrong := kid.value(b)
		if wrong != api.OK {
			err = wrong
		}
		v.Arr = append(v.Arr, x)
	}
	if err != api.OK {
		return api.Value{}, err
	}
	if n.kind == api.Object {
		v.Arr = nil
		for _, key := range n.once() {
			kid, _ := n.last(key)
			x, _ := kid.value(b)
			v.Obj = append(v.Obj, api.Field{Key: key, Val: x})
		}
	}
	return v, api.OK
}

var same = sample.Same

// docOf is the Doc of bytes that are one text.
func docOf(t *testing.T, b string) *cursor.Doc {
	t.Helper()
	d, err := cursor.New([]byte(b))
	if err != api.OK || d == nil {
		t.Fatalf("New(%s): %v, %d", name(b), d, err)
	}
	return d
}

// hold asks all that may be asked of a span.
func hold(t *testing.T, d *cursor.Doc, b string, s api.Span) {
	t.Helper()
	n, isPart := nodeOf(b, s)
	if !isPart {
		holdNone(t, d, b, s)
		return
	}
	if got, err := d.Bytes(s); string(got) != b[s.From:s.To] || err != api.OK {
		t.Errorf("%s: Bytes(%v): %q, %d", name(b), s, got, err)
	}
	if kind, err := d.Kind(s); kind != n.kind || err != api.OK {
		t.Errorf("%s: Kind(%v): %d, %d, not %d", name(b), s, kind, err, n.kind)
	}
	want, wrong := n.value(b)
	if v, err := d.Value(s); !same(v, want) || err != wrong {
		t.Errorf("%s: Value(%v): %v, %d, not %v, %d", name(b), s, v, err, want, wrong)
	}
	holdItems(t, d, b, s, n)
	holdKeys(t, d, b, s, n)
}

// holdNone asks of a span that is no part.
func holdNone(t *testing.T, d *cursor.Doc, b string, s api.Span) {
	t.Helper()
	if got, err := d.Bytes(s); got != nil || err != api.ErrArg {
		t.Errorf("%s: Bytes(%v): %q, %d", name(b), s, got, err)
	}
	if kind, err := d.Kind(s); kind != 0 || err != api.ErrArg {
		t.Errorf("%s: Kind(%v): %d, %d", name(b), s, kind, err)
	}
	if l, err := d.Items(s); l != nil || err != api.ErrArg {
		t.Errorf("%s: Items(%v): %v, %d", name(b), s, l, err)
	}
	if l, err := d.Keys(s); l != nil || err != api.ErrArg {
		t.Errorf("%s: Keys(%v): %v, %d", name(b), s, l, err)
	}
	for i := -1; i < 2; i++ {
		if x, err := d.Item(s, i); x != (api.Span{}) || err != api.ErrArg {
			t.Errorf("%s: Item(%v, %d): %v, %d", name(b), s, i, x, err)
		}
	}
	if x, err := d.Key(s, "a"); x != (api.Span{}) || err != api.ErrArg {
		t.Errorf("%s: Key(%v): %v, %d", name(b), s, x, err)
	}
	if v, err := d.Value(s); !same(v, api.Value{}) || err != api.ErrArg {
		t.Errorf("%s: Value(%v): %v, %d", name(b), s, v, err)
	}
}

func holdItems(t *testing.T, d *cursor.Doc, b string, s api.Span, n node) {
	t.Helper()
	err := api.OK
	if n.kind != api.Array && n.kind != api.Object {
		err = api.ErrKind
	}
	want := n.spans()
	if l, e := d.Items(s); !slices.Equal(l, want) || e != err {
		t.Errorf("%s: Items(%v): %v, %d, not %v, %d", name(b), s, l, e, want, err)
	}
	for i := -len(want) - 2; i < len(want)+2; i++ {
		one, err := api.Span{}, api.ErrKind
		if n.kind == api.Array {
			err = api.ErrNone
			if i >= -len(want) && i < len(want) {
				one, err = want[(i+len(want))%len(want)], api.OK
			}
		}
		if x, e := d.Item(s, i); x != one || e != err {
			t.Errorf("%s: Item(%v, %d): %v, %d, not %v, %d", name(b), s, i, x, e, one, err)
		}
	}
}

func holdKeys(t *testing.T, d *cursor.Doc, b string, s api.Span, n node) {
	t.Helper()
	err := api.OK
	if n.kind != api.Object {
		err = api.ErrKind
	}
	if l, e := d.Keys(s); !slices.Equal(l, n.once()) || e != err {
		t.Errorf("%s: Keys(%v): %q, %d, not %q, %d", name(b), s, l, e, n.once(), err)
	}
	for _, key := range append([]string{"", "a", `\u0061`, `"a"`, "ab", "é", "\xff", "\ufffd", "[", "}"}, n.keys...) {
		one, err := api.Span{}, api.ErrKind
		if n.kind == api.Object {
			err = api.ErrNone
			if kid, has := n.last(key); has {
				one, err = kid.Span, api.OK
			}
		}
		if x, e := d.Key(s, key); x != one || e != err {
			t.Errorf("%s: Key(%v, %q): %v, %d, not %v, %d", name(b), s, key, x, e, one, err)
		}
	}
}

func name(b string) string {
	if len(b) > 100 {
		return fmt.Sprintf("%q.. %q", b[:40], b[len(b)-40:])
	}
	return fmt.Sprintf("%q", b)
}

// plains are texts without brackets, but in quotes.
func plains() []string {
	return []string{"null", "true", "false", "0", "-0", "12", "-1.50e+3", "1E5", "0.10", "1e10000", "1e10001", `""`, `"a"`, `"a b"`, `"\"]"`, `"\\"`, `"[1,2]"`, `"{\"a\":1}"`, `"äé€😀"`, `"\ud834\udd1e"`, `"\ud834"`, `"\u0061"`, `":"`, `","`, `"{"`, `"}"`, `"["`, `"]"`, `"1"`, `" 1 "`, `"null"`}
}

// anyText is a text, and blanks in it.
func anyText(chance *rand.Rand, deep int) string {
	kind := chance.Intn(5)
	if deep == 0 || kind == 0 {
		return plains()[chance.Intn(len(plains()))]
	}
	var l []string
	for range chance.Intn(5) {
		item := anyBlanks(chance) + anyText(chance, deep-1) + anyBlanks(chance)
		if kind < 3 {
			item = anyBlanks(chance) + anyKey(chance) + anyBlanks(chance) + ":" + item
		}
		l = append(l, item)
	}
	if len(l) == 0 {
		l = append(l, anyBlanks(chance))
	}
	if kind < 3 {
		return "{" + strings.Join(l, ",") + "}"
	}
	return "[" + strings.Join(l, ",") + "]"
}

func anyKey(chance *rand.Rand) string {
	return []string{`""`, `"a"`, `"b"`, `"\u0061"`, `"ab"`, `"é"`, `"\u00e9"`, `"\ud834"`, `"\ufffd"`, `"["`, `"}"`, `":"`, `"\""`}[chance.Intn(13)]
}

func anyBlanks(chance *rand.Rand) string {
	return []string{"", "", "", " ", "\n", "\t\r "}[chance.Intn(6)]
}
