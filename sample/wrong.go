package sample

import (
	"math"
	"slices"

	"lorgnette/api"
)

// Unsound are texts that aren't sound.
func Unsound() []string {
	return []string{"\xff", "a\x80", "\xc0\x80", "\xc3", "é\xc3", "\xe2\x82", "\xed\xa0\x80", "\xed\xbf\xbf", "\xf0\x9d\x84", "\xf4\x90\x80\x80", "\xf8\x88\x80\x80\x80", "a\xffb", "ok then\xfe"}
}

// Wrong are values that may not be, each for one cause alone.
func Wrong() []api.Value {
	return slices.Concat(ofNoKind(), ofWrongNumbers(), ofTwoKinds(), ofWrongTexts(), withKeysTwice(), tooDeep())
}

// WrongWithin are values that may not be, also where what may not be stands in others.
func WrongWithin() []api.Value {
	null, l := api.Value{}, Wrong()
	for _, v := range Wrong() {
		l = append(l, Arr(v), Arr(null, Arr(Num(1), v), null), Obj(Field("a", Num(1)), Field("b", v), Field("c", null)), Obj(Field("a", Arr(Obj(Field("a", v))))))
	}
	return l
}

func ofNoKind() []api.Value {
	return []api.Value{{Kind: -1}, {Kind: 7}, {Kind: 9}, {Kind: math.MaxInt}, {Kind: math.MinInt}}
}

func ofWrongNumbers() []api.Value {
	var l []api.Value
	for _, d := range []api.Dec{
		{Neg: true}, {Exp: 1}, {Limbs: []uint32{10}}, {Limbs: []uint32{0}}, {Limbs: []uint32{1, 0}}, {Limbs: []uint32{1000000001}},
		{Limbs: []uint32{1}, Exp: 10001}, {Limbs: []uint32{1}, Exp: -10001}, {Limbs: []uint32{1}, Exp: math.MaxInt},
		{Limbs: slices.Repeat([]uint32{999999999}, 45)}, {Limbs: make([]uint32, 201)},
	} {
		l = append(l, api.Value{Kind: api.Number, Num: d})
	}
	return l
}

// ofTwoKinds have something in a field that isn't their kind's.
func ofTwoKinds() []api.Value {
	var l []api.Value
	for kind := api.Null; kind <= api.Object; kind++ {
		if kind != api.Number {
			l = append(l, api.Value{Kind: kind, Num: api.Dec{Limbs: []uint32{1}}}, api.Value{Kind: kind, Num: api.Dec{Exp: 1}}, api.Value{Kind: kind, Num: api.Dec{Exp: -1}}, api.Value{Kind: kind, Num: api.Dec{Neg: true}}, api.Value{Kind: kind, Num: api.Dec{Limbs: []uint32{0}}})
		}
		if kind != api.Text {
			l = append(l, api.Value{Kind: kind, Str: "x"}, api.Value{Kind: kind, Str: "\x00"})
		}
		if kind != api.Array {
			l = append(l, api.Value{Kind: kind, Arr: []api.Value{{}}})
		}
		if kind != api.Object {
			l = append(l, api.Value{Kind: kind, Obj: []api.Field{{}}})
		}
	}
	return l
}

func ofWrongTexts() []api.Value {
	var l []api.Value
	null := api.Value{}
	for _, s := range Unsound() {
		l = append(l, Text(s), Obj(Field(s, null)), Obj(Field("a", null), Field(s, null)))
	}
	return l
}

func withKeysTwice() []api.Value {
	null := api.Value{}
	return []api.Value{
		Obj(Field("a", null), Field("a", null)),
		Obj(Field("", Num(1)), Field("", Num(2))),
		Obj(Field("a", null), Field("b", null), Field("c", null), Field("a", null)),
		Obj(Field("a", Obj(Field("b", null), Field("b", null)))),
		Obj(Field("a", null), Field("b", Obj(Field("x", null), Field("x", null)))),
	}
}

func tooDeep() []api.Value {
	null := api.Value{}
	return []api.Value{
		Within(null, 201), Within(Arr(), 200), Within(Obj(), 200), UnderKeys(Num(5), 201), Arr(Num(1), Within(Num(2), 200)),
		Obj(Field("a", null), Field("b", Within(null, 200))), Within(null, 5000), Endless(1), Endless(3), EndlessObject(),
	}
}
