package sample

import (
	"slices"

	"lorgnette/api"
	"lorgnette/utf"
)

// Same tells whether two values are the same in every field; nil and empty are.
func Same(a, b api.Value) bool {
	return a.Kind == b.Kind && a.Str == b.Str && sameNumber(a.Num, b.Num) && SameAll(a.Arr, b.Arr) && slices.EqualFunc(a.Obj, b.Obj, sameField)
}

// SameAll tells so of as many values.
func SameAll(a, b []api.Value) bool {
	return slices.EqualFunc(a, b, Same)
}

func sameNumber(a, b api.Dec) bool {
	return a.Neg == b.Neg && a.Exp == b.Exp && slices.Equal(a.Limbs, b.Limbs)
}

func sameField(f, g api.Field) bool {
	return f.Key == g.Key && Same(f.Val, g.Val)
}

// Twin is a value that shares nothing with the one it is made from.
func Twin(v api.Value) api.Value {
	v.Num.Limbs = append([]uint32{}, v.Num.Limbs...)
	v.Arr = Twins(v.Arr)
	fields := make([]api.Field, len(v.Obj))
	for i, field := range v.Obj {
		fields[i] = Field(field.Key, Twin(field.Val))
	}
	v.Obj = fields
	return v
}

// Twins are those of values.
func Twins(l []api.Value) []api.Value {
	twins := make([]api.Value, len(l))
	for i, v := range l {
		twins[i] = Twin(v)
	}
	return twins
}

// InOrder is a twin with the fields of all objects in the order of their keys.
func InOrder(v api.Value) api.Value {
	v = Twin(v)
	for i := range v.Arr {
		v.Arr[i] = InOrder(v.Arr[i])
	}
	for i := range v.Obj {
		v.Obj[i].Val = InOrder(v.Obj[i].Val)
	}
	slices.SortFunc(v.Obj, func(f, g api.Field) int {
		return slices.Compare(utf.Explode(f.Key), utf.Explode(g.Key))
	})
	return v
}

// Spoil writes over all that a value's lists hold, also behind their ends.
func Spoil(v api.Value) {
	limbs := v.Num.Limbs[:cap(v.Num.Limbs)]
	for i := range limbs {
		limbs[i] = 999999999
	}
	items := v.Arr[:cap(v.Arr)]
	for i := range items {
		Spoil(items[i])
		items[i] = Text("spoilt")
	}
	fields := v.Obj[:cap(v.Obj)]
	for i := range fields {
		Spoil(fields[i].Val)
		fields[i] = Field("spoilt", Text("spoilt"))
	}
}
