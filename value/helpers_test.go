package value_test

import (
	"fmt"
	"math"
	"math/rand"
	"slices"
	"strings"
	"testing"

	"lorgnette/api"
	"lorgnette/dec"
)

var (
	null   = api.Value{}
	falsum = api.Value{Kind: api.False}
	verum  = api.Value{Kind: api.True}
)

func num(n int) api.Value          { return api.Value{Kind: api.Number, Num: dec.Of(n)} }
func text(s string) api.Value      { return api.Value{Kind: api.Text, Str: s} }
func arr(l ...api.Value) api.Value { return api.Value{Kind: api.Array, Arr: l} }
func obj(l ...api.Field) api.Value { return api.Value{Kind: api.Object, Obj: l} }

func field(key string, v api.Value) api.Field { return api.Field{Key: key, Val: v} }

func literal(s string) api.Value {
	d, err := dec.Parse(s)
	if err != api.OK {
		panic(s)
	}
	return api.Value{Kind: api.Number, Num: d}
}

// within is a value within so many arrays.
func within(v api.Value, levels int) api.Value {
	for range levels {
		v = arr(v)
	}
	return v
}

// withinObjects is a value within so many objects.
func withinObjects(v api.Value, levels int) api.Value {
	for range levels {
		v = obj(field("k", v))
	}
	return v
}

// copies are so many of a value.
func copies(v api.Value, count int) []api.Value {
	return slices.Repeat([]api.Value{v}, count)
}

// endless is an array that has itself, so many times.
func endless(times int) api.Value {
	l := make([]api.Value, times)
	for i := range l {
		l[i] = arr(l...)
	}
	return l[0]
}

// endlessObject is an object that has itself.
func endlessObject() api.Value {
	l := []api.Field{field("a", null), field("b", null)}
	l[1].Val = obj(l...)
	return l[1].Val
}

// show is short enough for a message, also of a value that has itself.
func show(v api.Value) string {
	return showDown(v, 6)
}

func showDown(v api.Value, levels int) string {
	shown := fmt.Sprintf("%d", v.Kind)
	if v.Kind == api.Number || len(v.Num.Limbs) > 0 || v.Num.Neg || v.Num.Exp != 0 {
		shown += fmt.Sprintf("%v", v.Num)
	}
	if v.Kind == api.Text || v.Str != "" {
		shown += fmt.Sprintf("%.20q", v.Str)
	}
	if levels == 0 {
		return shown + ".."
	}
	for _, item := range v.Arr[:min(3, len(v.Arr))] {
		shown += " [" + showDown(item, levels-1) + "]"
	}
	for _, f := range v.Obj[:min(3, len(v.Obj))] {
		shown += fmt.Sprintf(" {%.20q %s}", f.Key, showDown(f.Val, levels-1))
	}
	return shown[:min(300, len(shown))]
}

func showAll(l []api.Value) string {
	shown := make([]string, len(l))
	for i, v := range l {
		shown[i] = show(v)
	}
	return strings.Join(shown, "; ")
}

// same tells whether two values are the same in every field; nil and empty are.
func same(a, b api.Value) bool {
	return a.Kind == b.Kind && sameNumber(a.Num, b.Num) && a.Str == b.Str && sameAll(a.Arr, b.Arr) &&
		slices.EqualFunc(a.Obj, b.Obj, func(f, g api.Field) bool { return f.Key == g.Key && same(f.Val, g.Val) })
}

func sameNumber(a, b api.Dec) bool {
	return a.Neg == b.Neg && a.Exp == b.Exp && slices.Equal(a.Limbs, b.Limbs)
}

func sameAll(a, b []api.Value) bool {
	return slices.EqualFunc(a, b, same)
}

// isNothing tells whether a value is the zero value.
func isNothing(v api.Value) bool {
	return same(v, api.Value{})
}

// twin is a value that shares nothing with the one it is made from.
func twin(v api.Value) api.Value {
	v.Num.Limbs = append([]uint32{}, v.Num.Limbs...)
	v.Arr = twins(v.Arr)
	fields := []api.Field{}
	for _, f := range v.Obj {
		fields = append(fields, api.Field{Key: f.Key, Val: twin(f.Val)})
	}
	v.Obj = fields
	return v
}

func twins(l []api.Value) []api.Value {
	out := []api.Value{}
	for _, v := range l {
		out = append(out, twin(v))
	}
	return out
}

// spoil writes over all that a value's lists hold, also behind their ends.
func spoil(v api.Value) {
	limbs := v.Num.Limbs[:cap(v.Num.Limbs)]
	for i := range limbs {
		limbs[i] = 999999999
	}
	for _, item := range v.Arr {
		spoil(item)
	}
	for _, f := range v.Obj {
		spoil(f.Val)
	}
	items := v.Arr[:cap(v.Arr)]
	for i := range items {
		items[i] = text("spoilt")
	}
	fields := v.Obj[:cap(v.Obj)]
	for i := range fields {
		fields[i] = field("spoilt", text("spoilt"))
	}
}

// check holds a told value against the wanted one.
func check(t *testing.T, call string, got api.Value, err api.Errno, want api.Value, wantErr api.Errno) {
	t.Helper()
	if !same(got, want) || err != wantErr {
		t.Errorf("%s: %s, %d, not %s, %d", call, show(got), err, show(want), wantErr)
	}
}

// someTexts are texts of all sorts, sound ones, in order.
var someTexts = []string{"", "\x00", "\"", "A", "Z", "a", "a\x00", "aa", "ab", "b", "é", "ab̈", "߿", "ࠀ", "\ud7ff", "\ue000", "�", "\uffff", "\U00010000", "\U0001d11e", "\U0010ffff"}

// unsound are texts that aren't sound.
var unsound = []string{"\xff", "a\x80", "\xc0\x80", "\xc3", "é\xc3", "\xe2\x82", "\xed\xa0\x80", "\xed\xbf\xbf", "\xf0\x9d\x84", "\xf4\x90\x80\x80", "\xf8\x88\x80\x80\x80", "a\xffb", "ok then\xfe"}

// ordinary are values of everyday, and those at the limits of what may be.
func ordinary() []api.Value {
	l := []api.Value{
		null, falsum, verum, num(0), num(1), num(-1), num(7), num(1000000007), num(-125), num(math.MaxInt), num(math.MinInt),
		literal("0.1"), literal("-0.3"), literal("1e10000"), literal("-9.99e10000"), literal("1e-10000"), literal(strings.Repeat("9", 400)),
		arr(), arr(null), arr(num(1), text("a"), verum), arr(arr()), arr(arr(), arr(num(2))),
		obj(), obj(field("", null)), obj(field("a", num(1))), obj(field("b", num(1)), field("a", num(2))), obj(field("a", num(2)), field("b", num(1))),
		obj(field("a", obj(field("a", obj(field("a", num(3))))))), obj(field("a", arr(obj(field("a", null), field("b", null)), obj(field("b", null), field("a", null))))),
		arr(obj(field("k", num(1))), obj(field("k", num(2))), obj(field("k", num(3)))),
		within(null, 199), within(null, 200), within(arr(), 199), within(obj(), 199), withinObjects(num(5), 200), withinObjects(within(text("x"), 100), 100),
		arr(num(1), within(num(2), 199), num(3)),
		{Kind: api.Text, Arr: []api.Value{}, Obj: []api.Field{}, Num: api.Dec{Limbs: []uint32{}}}, {Kind: api.Number, Num: api.Dec{Limbs: []uint32{}}},
	}
	for _, s := range someTexts {
		l = append(l, text(s), obj(field(s, text(s))))
	}
	return l
}

// wrong are values that may not be, each for one cause alone.
func wrong() []api.Value {
	one := dec.Of(1)
	l := []api.Value{
		{Kind: -1}, {Kind: 7}, {Kind: math.MaxInt}, {Kind: math.MinInt},
		{Kind: api.Number, Num: api.Dec{Neg: true}}, {Kind: api.Number, Num: api.Dec{Exp: 1}}, {Kind: api.Number, Num: api.Dec{Limbs: []uint32{10}}},
		{Kind: api.Number, Num: api.Dec{Limbs: []uint32{0}}}, {Kind: api.Number, Num: api.Dec{Limbs: []uint32{1, 0}}}, {Kind: api.Number, Num: api.Dec{Limbs: []uint32{1000000001}}},
		{Kind: api.Number, Num: api.Dec{Limbs: []uint32{1}, Exp: 10001}}, {Kind: api.Number, Num: api.Dec{Limbs: []uint32{1}, Exp: -10001}}, {Kind: api.Number, Num: api.Dec{Limbs: []uint32{1}, Exp: math.MaxInt}},
		{Kind: api.Number, Num: api.Dec{Limbs: slices.Repeat([]uint32{999999999}, 45)}}, {Kind: api.Number, Num: api.Dec{Limbs: make([]uint32, 201)}},
		obj(field("a", null), field("a", null)), obj(field("", num(1)), field("", num(2))), obj(field("a", null), field("b", null), field("c", null), field("a", null)),
		obj(field("a", obj(field("b", null), field("b", null)))), obj(field("a", null), field("b", obj(field("x", null), field("x", null)))),
		within(null, 201), within(arr(), 200), within(obj(), 200), withinObjects(num(5), 201), arr(num(1), within(num(2), 200)), obj(field("a", null), field("b", within(null, 200))),
		within(null, 5000), endless(1), endless(3), endlessObject(),
	}
	for kind := api.Null; kind <= api.Object; kind++ {
		if kind != api.Number {
			l = append(l, api.Value{Kind: kind, Num: one}, api.Value{Kind: kind, Num: api.Dec{Exp: 1}}, api.Value{Kind: kind, Num: api.Dec{Exp: -1}}, api.Value{Kind: kind, Num: api.Dec{Neg: true}}, api.Value{Kind: kind, Num: api.Dec{Limbs: []uint32{0}}})
		}
		if kind != api.Text {
			l = append(l, api.Value{Kind: kind, Str: "x"}, api.Value{Kind: kind, Str: "\x00"})
		}
		if kind != api.Array {
			l = append(l, api.Value{Kind: kind, Arr: []api.Value{null}})
		}
		if kind != api.Object {
			l = append(l, api.Value{Kind: kind, Obj: []api.Field{{}}})
		}
	}
	for _, s := range unsound {
		l = append(l, text(s), obj(field(s, null)), obj(field("a", null), field(s, null)))
	}
	return l
}

// wrongWithin are values that may not be, also where what may not be stands in others.
func wrongWithin() []api.Value {
	l := wrong()
	for _, v := range wrong() {
		l = append(l, arr(v), arr(null, arr(num(1), v), null), obj(field("a", num(1)), field("b", v), field("c", null)), obj(field("a", arr(obj(field("a", v))))))
	}
	return l
}

// maker makes values, the same at each run.
type maker struct{ chance *rand.Rand }

func newMaker(seed int64) maker {
	return maker{rand.New(rand.NewSource(seed))}
}

// value is any that may be, of few kinds of texts and numbers, so that two often are much the same.
func (m maker) value(levels int) api.Value {
	kind := m.chance.Intn(7)
	if levels == 0 {
		kind = m.chance.Intn(5)
	}
	switch kind {
	case api.Number:
		return literal([]string{"0", "1", "-1", "2", "10", "0.5", "-0.05", "3e20", "2e-7", "1000000000", "123456789012345678901"}[m.chance.Intn(11)])
	case api.Text:
		return text(someTexts[m.chance.Intn(len(someTexts))])
	case api.Array:
		return arr(m.values(m.chance.Intn(4), levels-1)...)
	case api.Object:
		v := obj()
		for _, at := range m.chance.Perm(5)[:m.chance.Intn(5)] {
			v.Obj = append(v.Obj, field([]string{"", "a", "b", "ab", "é"}[at], m.value(levels-1)))
		}
		return v
	}
	return api.Value{Kind: kind}
}

func (m maker) values(count, levels int) []api.Value {
	l := make([]api.Value, count)
	for i := range l {
		l[i] = m.value(levels)
	}
	return l
}

// shuffled is a value with the fields of all its objects in any order.
func (m maker) shuffled(v api.Value) api.Value {
	v = twin(v)
	for i := range v.Arr {
		v.Arr[i] = m.shuffled(v.Arr[i])
	}
	for i := range v.Obj {
		v.Obj[i].Val = m.shuffled(v.Obj[i].Val)
	}
	m.chance.Shuffle(len(v.Obj), func(i, k int) { v.Obj[i], v.Obj[k] = v.Obj[k], v.Obj[i] })
	return v
}

// nonsense is any value, whatever its fields.
func (m maker) nonsense(levels int) api.Value {
	v := api.Value{Kind: m.chance.Intn(10) - 2}
	if m.chance.Intn(2) == 0 {
		v.Str = unsound[m.chance.Intn(len(unsound))]
	}
	if m.chance.Intn(2) == 0 {
		v.Num = api.Dec{Limbs: []uint32{m.chance.Uint32()}, Exp: m.chance.Intn(9)}
	}
	if levels > 0 {
		for range m.chance.Intn(4) {
			v.Arr = append(v.Arr, m.nonsense(levels-1))
		}
		for range m.chance.Intn(4) {
			v.Obj = append(v.Obj, field(unsound[m.chance.Intn(len(unsound))], m.nonsense(levels-1)))
		}
	}
	return v
}
