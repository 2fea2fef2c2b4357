package place_test

import (
	"fmt"
	"math"
	"math/rand"
	"slices"
	"strconv"
	"strings"
	"testing"

	"lorgnette/api"
	"lorgnette/cursor"
	"lorgnette/dec"
	"lorgnette/quote"
)

var null = api.Value{}

func num(n int) api.Value          { return api.Value{Kind: api.Number, Num: dec.Of(n)} }
func text(s string) api.Value      { return api.Value{Kind: api.Text, Str: s} }
func arr(l ...api.Value) api.Value { return api.Value{Kind: api.Array, Arr: l} }
func obj(l ...api.Field) api.Value { return api.Value{Kind: api.Object, Obj: l} }

func field(key string, v api.Value) api.Field { return api.Field{Key: key, Val: v} }

func part(start, end api.Value) api.Value {
	return obj(field("start", start), field("end", end))
}

// of is the value that a text of JSON stands for.
func of(s string) api.Value {
	doc, err := cursor.New([]byte(s))
	if err != api.OK {
		panic(s)
	}
	v, err := doc.Value(doc.Root())
	if err != api.OK {
		panic(s)
	}
	return v
}

// pathsOf are the paths that an array of arrays stands for.
func pathsOf(v api.Value) [][]api.Value {
	var l [][]api.Value
	for _, path := range v.Arr {
		l = append(l, path.Arr)
	}
	return l
}

// asArray is the array of arrays that stands for paths.
func asArray(paths [][]api.Value) api.Value {
	l := arr()
	for _, path := range paths {
		l.Arr = append(l.Arr, arr(path...))
	}
	return l
}

// items are the numbers from 0 on.
func items(count int) api.Value {
	v := arr()
	for i := range count {
		v.Arr = append(v.Arr, num(i))
	}
	return v
}

// within is a value within so many arrays.
func within(v api.Value, levels int) api.Value {
	for range levels {
		v = arr(v)
	}
	return v
}

// underKeys is a value within so many objects, each with the key k.
func underKeys(v api.Value, levels int) api.Value {
	for range levels {
		v = obj(field("k", v))
	}
	return v
}

// show is a value's JSON, or something like it, of values that may not be, too; short enough for a message.
func show(v api.Value) string {
	shown := showDown(v, 12)
	return shown[:min(400, len(shown))]
}

func showDown(v api.Value, levels int) string {
	if levels == 0 {
		return ".."
	}
	var parts []string
	switch v.Kind {
	case api.Null, api.False, api.True:
		return []string{"null", "false", "true"}[v.Kind]
	case api.Number:
		if s, err := dec.Text(v.Num); err == api.OK {
			return s
		}
	case api.Text:
		return quote.Quote(v.Str[:min(40, len(v.Str))])
	case api.Array:
		for _, item := range v.Arr[:min(20, len(v.Arr))] {
			parts = append(parts, showDown(item, levels-1))
		}
		return "[" + strings.Join(parts, ",") + "]"
	case api.Object:
		for _, f := range v.Obj[:min(20, len(v.Obj))] {
			parts = append(parts, quote.Quote(f.Key)+":"+showDown(f.Val, levels-1))
		}
		return "{" + strings.Join(parts, ",") + "}"
	}
	return "(kind " + strconv.Itoa(v.Kind) + " " + fmt.Sprint(v.Num) + ")"
}

// same tells whether two values are the same in every field; nil and empty are.
func same(a, b api.Value) bool {
	return a.Kind == b.Kind && a.Str == b.Str && a.Num.Neg == b.Num.Neg && a.Num.Exp == b.Num.Exp && slices.Equal(a.Num.Limbs, b.Num.Limbs) &&
		slices.EqualFunc(a.Arr, b.Arr, same) &&
		slices.EqualFunc(a.Obj, b.Obj, func(f, g api.Field) bool { return f.Key == g.Key && same(f.Val, g.Val) })
}

// twin is a value that shares nothing with the one it is made from.
func twin(v api.Value) api.Value {
	v.Num.Limbs = append([]uint32{}, v.Num.Limbs...)
	arr, obj := v.Arr, v.Obj
	v.Arr, v.Obj = nil, nil
	for _, item := range arr {
		v.Arr = append(v.Arr, twin(item))
	}
	for _, f := range obj {
		v.Obj = append(v.Obj, field(f.Key, twin(f.Val)))
	}
	return v
}

// spoil writes over all that a value's lists hold, also behind their ends.
func spoil(v api.Value) {
	limbs := v.Num.Limbs[:cap(v.Num.Limbs)]
	for i := range limbs {
		limbs[i] = 999999999
	}
	items := v.Arr[:cap(v.Arr)]
	for i := range items {
		spoil(items[i])
		items[i] = text("spoilt")
	}
	fields := v.Obj[:cap(v.Obj)]
	for i := range fields {
		spoil(fields[i].Val)
		fields[i] = field("spoilt", text("spoilt"))
	}
}

// check holds what a call told of its arguments against what is wanted.
func check(t *testing.T, got api.Value, err api.Errno, want api.Value, wantErr api.Errno, call string, args ...api.Value) {
	t.Helper()
	if same(got, want) && err == wantErr {
		return
	}
	for _, v := range args {
		call += " " + show(v)
	}
	t.Errorf("%s: %s, %d, not %s, %d", call, show(got), err, show(want), wantErr)
}

// endless is an array that has itself.
func endless() api.Value {
	l := make([]api.Value, 1)
	l[0] = arr(l...)
	return l[0]
}

// wrong are values that may not be.
func wrong() []api.Value {
	return []api.Value{
		{Kind: -1}, {Kind: 7}, {Kind: math.MaxInt}, {Kind: math.MinInt},
		{Kind: api.Null, Str: "x"}, {Kind: api.Text, Arr: []api.Value{null}}, {Kind: api.Array, Obj: []api.Field{{}}}, {Kind: api.Object, Num: dec.Of(1)}, {Kind: api.Number, Str: "1"},
		{Kind: api.Number, Num: api.Dec{Neg: true}}, {Kind: api.Number, Num: api.Dec{Exp: 1}}, {Kind: api.Number, Num: api.Dec{Limbs: []uint32{10}}},
		{Kind: api.Number, Num: api.Dec{Limbs: []uint32{1}, Exp: 10001}}, {Kind: api.Number, Num: api.Dec{Limbs: []uint32{1}, Exp: math.MaxInt}}, {Kind: api.Number, Num: api.Dec{Limbs: make([]uint32, 201)}},
		text("\xff"), text("a\xed\xa0\x80"), obj(field("\xc3", null)), obj(field("a", num(1)), field("a", num(1))),
		part(api.Value{Kind: api.Number, Num: api.Dec{Limbs: []uint32{0}}}, null), obj(field("start", null), field("end", null), field("start", null)),
		arr(text("ok"), text("\x80")), obj(field("a", arr(api.Value{Kind: 7}))),
		within(null, 201), underKeys(num(1), 201), within(arr(), 200), within(null, 3000), endless(),
	}
}

// maker makes values and paths, the same at each run.
type maker struct{ chance *rand.Rand }

func newMaker(seed int64) maker {
	return maker{rand.New(rand.NewSource(seed))}
}

func (m maker) below(n int) int { return m.chance.Intn(n) }

var someKeys = []string{"", "a", "b", "é", "start", "end"}

var someNumbers = []string{"0", "1", "2", "3", "-1", "-2", "-3", "-4", "0.5", "1.5", "-0.5", "-1.5", "2.000000000000000000001", "1e-9999", "-1e-9999", "7", "65535", "65536", "9007199254740992", "9007199254740992.5", "-9007199254740992.5", "9007199254740993", "-1e17", "1e9999"}

// number is any; most times one that is an index of a short array.
func (m maker) number() api.Value {
	if m.below(8) > 0 {
		return of(someNumbers[m.below(12)])
	}
	return of(someNumbers[m.below(len(someNumbers))])
}

// value is any that may be, at most so many levels deep.
func (m maker) value(levels int) api.Value {
	kind := m.below(9)
	if levels == 0 {
		kind = m.below(5)
	}
	switch kind {
	case api.Null, api.False, api.True:
		return api.Value{Kind: kind}
	case api.Number:
		return m.number()
	case api.Text:
		return text([]string{"", "a", "aäb", "a\x00𝄞�c", "\U0010ffff\ud7ff"}[m.below(5)])
	case api.Object, 8:
		v := obj()
		for _, at := range m.chance.Perm(len(someKeys))[:m.below(5)] {
			v.Obj = append(v.Obj, field(someKeys[at], m.value(levels-1)))
		}
		return v
	}
	v := arr()
	for range m.below(5) {
		v.Arr = append(v.Arr, m.value(levels-1))
	}
	return v
}

// slice is one of any bounds; its keys in either order.
func (m maker) slice() api.Value {
	bound := func() api.Value {
		if m.below(3) == 0 {
			return null
		}
		return m.number()
	}
	v := part(bound(), bound())
	if m.below(3) == 0 {
		slices.Reverse(v.Obj)
	}
	return v
}

// step is one that most times leads on from a value.
func (m maker) step(v api.Value) api.Value {
	kind := v.Kind
	if kind < api.Text || m.below(12) == 0 {
		kind = m.below(7)
	}
	switch {
	case kind == api.Null && m.below(3) == 0:
		return m.value(2)
	case kind == api.Object && len(v.Obj) > 0 && m.below(3) > 0:
		return text(v.Obj[m.below(len(v.Obj))].Key)
	case kind == api.Object:
		return text(someKeys[m.below(len(someKeys))])
	case kind == api.Text || m.below(3) == 0:
		return m.slice()
	}
	return m.number()
}

// path is one of up to so many steps that most times leads through a value.
func (m maker) path(v api.Value, most int) []api.Value {
	path := []api.Value{}
	for range m.below(most + 1) {
		k := m.step(v)
		path = append(path, k)
		v, _ = stepOf(v, k)
	}
	return path
}

func (m maker) paths(v api.Value, count int) [][]api.Value {
	l := [][]api.Value{}
	for range count {
		path := m.path(v, 4)
		l = append(l, path)
		if m.below(4) == 0 {
			l = append(l, path)
		}
	}
	return l
}
