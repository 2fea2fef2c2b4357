package clone_test

import (
	"reflect"
	"testing"

	"lorgnette/api"
	"lorgnette/clone"
)

// made is a value of all kinds, new at each call.
func made() api.Value {
	number := api.Value{Kind: api.Number, Num: api.Dec{Neg: true, Limbs: []uint32{7, 1}, Exp: -3}}
	object := api.Value{Kind: api.Object, Obj: []api.Field{{Key: "a", Val: number}, {Key: "b"}}}
	array := api.Value{Kind: api.Array, Arr: []api.Value{object, {Kind: api.Text, Str: "ä"}, {Kind: api.True}, number}}
	return api.Value{Kind: api.Object, Obj: []api.Field{{Key: "", Val: array}, {Key: "x", Val: number}, {Key: "y", Val: object}}}
}

// spoil writes over all that a value's lists hold.
func spoil(v api.Value) {
	for i := range v.Num.Limbs {
		v.Num.Limbs[i] = 5
	}
	for i := range v.Arr {
		spoil(v.Arr[i])
		v.Arr[i] = api.Value{Kind: api.False}
	}
	for i := range v.Obj {
		spoil(v.Obj[i].Val)
		v.Obj[i] = api.Field{Key: "spoilt"}
	}
}

// TestClones: a clone is the same, shares nothing with what it is made from, nor its parts with each other, whatever those share.
func TestClones(t *testing.T) {
	v := made()
	one, other := clone.Value(v), clone.Fields(v.Obj)
	items := clone.Items([]api.Value{v, v})
	if !reflect.DeepEqual(items[0], items[1]) {
		t.Error("Items of two that are the same")
	}
	spoil(items[0])
	if !reflect.DeepEqual(items[1], clone.Value(made())) {
		t.Error("items share something")
	}
	spoil(v)
	if !reflect.DeepEqual(one, clone.Value(made())) || !reflect.DeepEqual(other, clone.Fields(made().Obj)) {
		t.Error("a clone shares something with what it is made from")
	}
	spoil(one.Obj[0].Val)
	if want := clone.Fields(made().Obj); !reflect.DeepEqual(one.Obj[1:], want[1:]) {
		t.Error("a clone's parts share something")
	}
}

// TestNothing: what has nothing has nothing when it is cloned.
func TestNothing(t *testing.T) {
	v := clone.Value(api.Value{})
	if v.Kind != api.Null || v.Str != "" || v.Num.Neg || v.Num.Exp != 0 || len(v.Num.Limbs)+len(v.Arr)+len(v.Obj) > 0 {
		t.Error("Value of Null:", v)
	}
	if len(clone.Items(nil))+len(clone.Fields(nil)) > 0 {
		t.Error("of no items and no fields")
	}
}
