package value_test

import (
	"math"
	"math/rand"
	"slices"
	"strings"
	"testing"

	"lorgnette/api"
	"lorgnette/sample"
)

// What the tests are written with.
var (
	num           = sample.Num
	text          = sample.Text
	arr           = sample.Arr
	obj           = sample.Obj
	field         = sample.Field
	literal       = sample.Of
	within        = sample.Within
	withinObjects = sample.UnderKeys
	endless       = sample.Endless
	endlessObject = sample.EndlessObject
	wrong         = sample.Wrong
	wrongWithin   = sample.WrongWithin
	show          = sample.Show
	showAll       = sample.ShowAll
	same          = sample.Same
	sameAll       = sample.SameAll
	twin          = sample.Twin
	twins         = sample.Twins
	inOrder       = sample.InOrder
	spoil         = sample.Spoil
)

var (
	null   = api.Value{}
	falsum = api.Value{Kind: api.False}
	verum  = api.Value{Kind: api.True}
)

// copies are so many of a value.
func copies(v api.Value, count int) []api.Value {
	return slices.Repeat([]api.Value{v}, count)
}

// isNothing tells whether a value is the zero value.
func isNothing(v api.Value) bool {
	return same(v, api.Value{})
}

// check holds a told value against the wanted one.
func check(t *testing.T, call string, got api.Value, err api.Errno, want api.Value, wantErr api.Errno) {
	t.Helper()
	if !same(got, want) || err != wantErr {
		t.Errorf("%s: %s, %d, not %s, %d", call, show(got), err, show(want), wantErr)
	}
}

// someTexts are texts of all sorts, sound ones, in order.
var someTexts = []string{"", "\x00", "\"", "A", "Z", "a", "a\x00", "aa", "ab", "b", "é", "ab̈", "߿", "ࠀ", "\ud7ff", "\ue000", "�", "\uffff", "\U00010000", "\U0001d11e", "\U0010ffff"}

// unsound are texts that aren't sound.
var unsound = sample.Unsound()

// ordinary are values of everyday, and those at the limits of what may be.
func ordinary() []api.Value {
	l := []api.Value{
		null, falsum, verum, num(0), num(1), num(-1), num(7), num(1000000007), num(-125), num(math.MaxInt), num(math.MinInt),
		literal("0.1"), literal("-0.3"), literal("1e10000"), literal("-9.99e10000"), literal("1e-10000"), literal(strings.Repeat("9", 400)),
		arr(), arr(null), arr(num(1), text("a"), verum), arr(arr()), arr(arr(), arr(num(2))),
		obj(), obj(field("", null)), obj(field("a", num(1))), obj(field("b", num(1)), field("a", num(2))), obj(field("a", num(2)), field("b", num(1))),
		obj(field("a", obj(field("a", obj(field("a", num(3))))))), obj(field("a", arr(obj(field("a", null), field("b", null)), obj(field("b", null), field("a", null))))),
		arr(obj(field("k", num(1))), obj(field("k", num(2))), obj(field("k", num(3)))),
		within(null, 199), within(null, 200), within(arr(), 199), within(obj(), 199), withinObjects(num(5), 200), withinObjects(within(text("x"), 100), 100),
		arr(num(1), within(num(2), 199), num(3)),
		{Kind: api.Text, Arr: []api.Value{}, Obj: []api.Field{}, Num: api.Dec{Limbs: []uint32{}}}, {Kind: api.Number, Num: api.Dec{Limbs: []uint32{}}},
	}
	for _, s := range someTexts {
		l = append(l, text(s), obj(field(s, text(s))))
	}
	return l
}

// maker makes values, the same at each run.
type maker struct{ chance *rand.Rand }

func newMaker(seed int64) maker {
	return maker{rand.New(rand.NewSource(seed))}
}

// value is any that may be, of few kinds of texts and numbers, so that two often are much the same.
func (m maker) value(levels int) api.Value {
	kind := m.chance.Intn(7)
	if levels == 0 {
		kind = m.chance.Intn(5)
	}
	switch kind {
	case api.Number:
		return literal([]string{"0", "1", "-1", "2", "10", "0.5", "-0.05", "3e20", "2e-7", "1000000000", "123456789012345678901"}[m.chance.Intn(11)])
	case api.Text:
		return text(someTexts[m.chance.Intn(len(someTexts))])
	case api.Array:
		return arr(m.values(m.chance.Intn(4), levels-1)...)
	case api.Object:
		v := obj()
		for _, at := range m.chance.Perm(5)[:m.chance.Intn(5)] {
			v.Obj = append(v.Obj, field([]string{"", "a", "b", "ab", "é"}[at], m.value(levels-1)))
		}
		return v
	}
	return api.Value{Kind: kind}
}

func (m maker) values(count, levels int) []api.Value {
	l := make([]api.Value, count)
	for i := range l {
		l[i] = m.value(levels)
	}
	return l
}

// shuffled is a value with the fields of all its objects in any order.
func (m maker) shuffled(v api.Value) api.Value {
	v = twin(v)
	for i := range v.Arr {
		v.Arr[i] = m.shuffled(v.Arr[i])
	}
	for i := range v.Obj {
		v.Obj[i].Val = m.shuffled(v.Obj[i].Val)
	}
	m.chance.Shuffle(len(v.Obj), func(i, k int) { v.Obj[i], v.Obj[k] = v.Obj[k], v.Obj[i] })
	return v
}

// nonsense is any value, whatever its fields.
func (m maker) nonsense(levels int) api.Value {
	v := api.Value{Kind: m.chance.Intn(10) - 2}
	if m.chance.Intn(2) == 0 {
		v.Str = unsound[m.chance.Intn(len(unsound))]
	}
	if m.chance.Intn(2) == 0 {
		v.Num = api.Dec{Limbs: []uint32{m.chance.Uint32()}, Exp: m.chance.Intn(9)}
	}
	if levels > 0 {
		for range m.chance.Intn(4) {
			v.Arr = append(v.Arr, m.nonsense(levels-1))
		}
		for range m.chance.Intn(4) {
			v.Obj = append(v.Obj, field(unsound[m.chance.Intn(len(unsound))], m.nonsense(levels-1)))
		}
	}
	return v
}
