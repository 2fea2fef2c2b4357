// Package sample has the values that the layers' tests are written with: made from few words, held against each other, copied, spoilt and shown. No layer calls it.
package sample

import (
	"lorgnette/api"
	"lorgnette/cursor"
	"lorgnette/dec"
)

// Num is a number.
func Num(n int) api.Value {
	return api.Value{Kind: api.Number, Num: dec.Of(n)}
}

// Text is a text.
func Text(s string) api.Value {
	return api.Value{Kind: api.Text, Str: s}
}

// Arr is an array.
func Arr(items ...api.Value) api.Value {
	return api.Value{Kind: api.Array, Arr: items}
}

// Obj is an object.
func Obj(fields ...api.Field) api.Value {
	return api.Value{Kind: api.Object, Obj: fields}
}

// Field is a key, and what it has.
func Field(key string, v api.Value) api.Field {
	return api.Field{Key: key, Val: v}
}

// Of is the value that a text of JSON stands for. A test that is written with any other text is wrong itself.
func Of(s string) api.Value {
	doc, err := cursor.New([]byte(s))
	if err != api.OK {
		panic("no text of JSON: " + s)
	}
	v, err := doc.Value(doc.Root())
	if err != api.OK {
		panic("out of range: " + s)
	}
	return v
}

// Within is a value within so many arrays.
func Within(v api.Value, levels int) api.Value {
	for range levels {
		v = Arr(v)
	}
	return v
}

// UnderKeys is a value within so many objects, each with the key k.
func UnderKeys(v api.Value, levels int) api.Value {
	for range levels {
		v = Obj(Field("k", v))
	}
	return v
}

// Endless is an array that has itself, so many times.
func Endless(times int) api.Value {
	l := make([]api.Value, times)
	for i := range l {
		l[i] = Arr(l...)
	}
	return l[0]
}

// EndlessObject is an object that has itself.
func EndlessObject() api.Value {
	l := []api.Field{Field("a", api.Value{}), Field("b", api.Value{})}
	l[1].Val = Obj(l...)
	return l[1].Val
}
