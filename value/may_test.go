package value_test

import (
	"fmt"
	"strconv"
	"testing"
	"unicode/utf8"

	"lorgnette/api"
	"lorgnette/dec"
	"lorgnette/value"
)

// mayBe is what the document's words say of a value, in an object or an array or not.
func mayBe(v api.Value, depth int) bool {
	if v.Kind < 0 || v.Kind > 6 || depth > 200 {
		return false
	}
	if v.Kind != api.Number && (v.Num.Neg || v.Num.Exp != 0 || len(v.Num.Limbs) > 0) || v.Kind == api.Number && !dec.May(v.Num) {
		return false
	}
	if v.Kind != api.Text && v.Str != "" || !utf8.ValidString(v.Str) {
		return false
	}
	if v.Kind != api.Array && len(v.Arr) > 0 || v.Kind != api.Object && len(v.Obj) > 0 {
		return false
	}
	if (v.Kind == api.Array || v.Kind == api.Object) && depth == 200 {
		return false
	}
	for _, item := range v.Arr {
		if !mayBe(item, depth+1) {
			return false
		}
	}
	for i, f := range v.Obj {
		for _, other := range v.Obj[:i] {
			if other.Key == f.Key {
				return false
			}
		}
		if !utf8.ValidString(f.Key) || !mayBe(f.Val, depth+1) {
			return false
		}
	}
	return true
}

func TestMay(t *testing.T) {
	for _, v := range ordinary() {
		if !value.May(v) {
			t.Errorf("May %s: false", show(v))
		}
	}
	for _, v := range wrongWithin() {
		if value.May(v) {
			t.Errorf("May %s: true", show(v))
		}
	}
}

func TestMayOfAny(t *testing.T) {
	m := newMaker(1)
	for range 3000 {
		if v := m.value(4); !value.May(v) || !mayBe(v, 0) {
			t.Errorf("May %s: false", show(v))
		}
		if v := m.nonsense(3); value.May(v) != mayBe(v, 0) {
			t.Errorf("May %s: %t", show(v), !mayBe(v, 0))
		}
	}
}

// TestMayOneWrong puts one thing that may not be somewhere into what may.
func TestMayOneWrong(t *testing.T) {
	m := newMaker(2)
	bad := wrong()
	for i := range 3000 {
		v := arr(m.values(3, 3)...)
		put(m, &v, bad[i%len(bad)])
		if value.May(v) {
			t.Errorf("May %s: true", show(v))
		}
	}
}

// put writes a value over one that stands in an array or an object, at any depth.
func put(m maker, v *api.Value, x api.Value) {
	switch {
	case len(v.Arr) > 0:
		put(m, &v.Arr[m.chance.Intn(len(v.Arr))], x)
	case len(v.Obj) > 0:
		put(m, &v.Obj[m.chance.Intn(len(v.Obj))].Val, x)
	default:
		*v = x
	}
}

// TestKeysOfObjects: keys that are like ones of other objects are no matter, wherever those stand.
func TestKeysOfObjects(t *testing.T) {
	two := []api.Field{field("a", null), field("b", null)}
	for _, v := range []api.Value{
		arr(obj(two...), obj(two...), obj(two...)),
		obj(field("a", obj(two...)), field("b", obj(two...))),
		arr(obj(field("a", obj(two...)), field("b", arr(obj(two...), obj(two...))))),
		withinObjects(obj(two...), 199),
	} {
		if !value.May(v) {
			t.Errorf("May %s: false", show(v))
		}
	}
	like := append([]api.Field{field("a", obj(two...))}, field("b", obj(two...)), field("a", null))
	for _, v := range []api.Value{obj(like...), arr(obj(two...), obj(like...)), arr(obj(like...), obj(two...)), obj(field("x", obj(two...)), field("y", obj(like...)))} {
		if value.May(v) {
			t.Errorf("May %s: true", show(v))
		}
	}
}

// TestManyKeys has two that are like each other at any places of a great object.
func TestManyKeys(t *testing.T) {
	const count = 3000
	fields := make([]api.Field, count)
	for i := range fields {
		fields[i] = field("key"+strconv.Itoa(i), num(i))
	}
	if !value.May(obj(fields...)) {
		t.Error("May: false")
	}
	for _, pair := range [][2]int{{0, 1}, {0, count - 1}, {count - 2, count - 1}, {7, 1999}} {
		was := fields[pair[1]].Key
		fields[pair[1]].Key = fields[pair[0]].Key
		if value.May(obj(fields...)) {
			t.Errorf("May, like at %v: true", pair)
		}
		fields[pair[1]].Key = was
	}
}

// TestErrArg hands values and keys that may not be to each call, at each place.
func TestErrArg(t *testing.T) {
	good := []api.Value{null, num(1), arr(num(1)), obj(field("a", num(1))), within(null, 200)}
	for _, bad := range wrongWithin() {
		for _, v := range good {
			refused(t, bad, v)
		}
		refused(t, bad, bad)
		for _, l := range [][]api.Value{{bad}, {num(1), bad}, {bad, num(1)}, {num(2), bad, num(1)}} {
			if got, err := value.Sort(l); len(got) > 0 || err != api.ErrArg {
				t.Errorf("Sort %s: %s, %d", showAll(l), showAll(got), err)
			}
		}
		got, err := value.Get(bad, "a")
		check(t, "Get of "+show(bad), got, err, null, api.ErrArg)
		got, err = value.Without(bad, "a")
		check(t, "Without of "+show(bad), got, err, null, api.ErrArg)
	}
}

// refused hands a value that may not be to the calls of two.
func refused(t *testing.T, bad, v api.Value) {
	t.Helper()
	for _, pair := range [][2]api.Value{{bad, v}, {v, bad}} {
		of := fmt.Sprintf("of %s and %s", show(pair[0]), show(pair[1]))
		if order, err := value.Cmp(pair[0], pair[1]); order != 0 || err != api.ErrArg {
			t.Errorf("Cmp %s: %d, %d", of, order, err)
		}
		got, err := value.With(pair[0], "a", pair[1])
		check(t, "With "+of, got, err, null, api.ErrArg)
	}
}

// TestUnsoundKeys: that comes ahead of all other errors.
func TestUnsoundKeys(t *testing.T) {
	for _, key := range unsound {
		for _, v := range []api.Value{null, num(1), text(""), arr(), obj(), obj(field("a", num(1)))} {
			got, err := value.Get(v, key)
			check(t, "Get of "+show(v), got, err, null, api.ErrArg)
			got, err = value.Without(v, key)
			check(t, "Without of "+show(v), got, err, null, api.ErrArg)
			got, err = value.With(v, key, null)
			check(t, "With of "+show(v), got, err, null, api.ErrArg)
			got, err = value.With(v, key, within(null, 200))
			check(t, "With of "+show(v), got, err, null, api.ErrArg)
		}
	}
}
