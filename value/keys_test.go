package value_test

import (
	"strconv"
	"testing"

	"lorgnette/api"
	"lorgnette/value"
)

func got(t *testing.T, v api.Value, key string, want api.Value, wantErr api.Errno) {
	t.Helper()
	x, err := value.Get(v, key)
	check(t, "Get of "+show(v)+", "+strconv.Quote(key), x, err, want, wantErr)
}

func set(t *testing.T, v api.Value, key string, x, want api.Value, wantErr api.Errno) {
	t.Helper()
	w, err := value.With(v, key, x)
	check(t, "With of "+show(v)+", "+strconv.Quote(key)+", "+show(x), w, err, want, wantErr)
}

func takenAway(t *testing.T, v api.Value, key string, want api.Value, wantErr api.Errno) {
	t.Helper()
	w, err := value.Without(v, key)
	check(t, "Without of "+show(v)+", "+strconv.Quote(key), w, err, want, wantErr)
}

func TestGet(t *testing.T) {
	v := obj(field("a", num(1)), field("", arr(num(2))), field("é", null), field("o", obj(field("a", num(3)))))
	got(t, v, "a", num(1), api.OK)
	got(t, v, "", arr(num(2)), api.OK)
	got(t, v, "é", null, api.OK)
	got(t, v, "o", obj(field("a", num(3))), api.OK)
	for _, key := range []string{"b", "A", "aa", "a\x00", "e\u0301", "\x00", "�"} {
		got(t, v, key, null, api.OK)
	}
	got(t, obj(), "a", null, api.OK)
	got(t, obj(), "", null, api.OK)
	got(t, null, "a", null, api.OK)
	got(t, null, "", null, api.OK)
	got(t, withinObjects(num(1), 200), "k", withinObjects(num(1), 199), api.OK)
}

func TestWith(t *testing.T) {
	one, two := num(1), num(2)
	v := obj(field("a", one), field("b", one), field("c", one))
	set(t, v, "a", two, obj(field("a", two), field("b", one), field("c", one)), api.OK)
	set(t, v, "b", arr(v), obj(field("a", one), field("b", arr(v)), field("c", one)), api.OK)
	set(t, v, "c", null, obj(field("a", one), field("b", one), field("c", null)), api.OK)
	set(t, v, "", two, obj(field("a", one), field("b", one), field("c", one), field("", two)), api.OK)
	set(t, v, "ab", v, obj(field("a", one), field("b", one), field("c", one), field("ab", v)), api.OK)
	set(t, obj(), "", null, obj(field("", null)), api.OK)
	set(t, null, "x", one, obj(field("x", one)), api.OK)
	set(t, null, "", obj(), obj(field("", obj())), api.OK)
	set(t, obj(field("a", one)), "a", verum, obj(field("a", verum)), api.OK)
}

// TestWithDepth goes to the limit, and a step beyond it.
func TestWithDepth(t *testing.T) {
	much, more := within(null, 199), within(null, 200)
	for _, v := range []api.Value{obj(field("a", num(1))), obj(field("a", much)), obj(field("a", num(1)), field("b", much))} {
		want := twin(v)
		want.Obj[0].Val = much
		set(t, v, "a", much, want, api.OK)
		want = twin(v)
		want.Obj = append(want.Obj, field("x", much))
		set(t, v, "x", much, want, api.OK)
		for _, deep := range []api.Value{more, within(arr(), 199), withinObjects(num(1), 200), within(obj(), 199)} {
			set(t, v, "a", deep, null, api.ErrDepth)
			set(t, v, "x", deep, null, api.ErrDepth)
		}
	}
	set(t, null, "a", much, obj(field("a", much)), api.OK)
	set(t, null, "a", more, null, api.ErrDepth)
	set(t, obj(), "a", more, null, api.ErrDepth)
	set(t, withinObjects(null, 200), "a", num(1), obj(field("k", withinObjects(null, 199)), field("a", num(1))), api.OK)
	set(t, withinObjects(null, 200), "k", num(1), obj(field("k", num(1))), api.OK)
}

func TestWithout(t *testing.T) {
	one, two, three := num(1), num(2), arr(num(3))
	v := obj(field("a", one), field("", two), field("c", three))
	takenAway(t, v, "a", obj(field("", two), field("c", three)), api.OK)
	takenAway(t, v, "", obj(field("a", one), field("c", three)), api.OK)
	takenAway(t, v, "c", obj(field("a", one), field("", two)), api.OK)
	for _, key := range []string{"b", "A", "aa", "\x00"} {
		takenAway(t, v, key, v, api.OK)
	}
	takenAway(t, obj(field("a", one)), "a", obj(), api.OK)
	takenAway(t, obj(), "a", obj(), api.OK)
	takenAway(t, null, "a", null, api.OK)
	takenAway(t, null, "", null, api.OK)
	takenAway(t, withinObjects(null, 200), "k", obj(), api.OK)
	takenAway(t, withinObjects(null, 200), "x", withinObjects(null, 200), api.OK)
}

// TestKinds: what is neither an object nor Null has no keys, whatever is set.
func TestKinds(t *testing.T) {
	for _, v := range []api.Value{falsum, verum, num(0), num(-7), text(""), text("a"), arr(), arr(obj(field("a", null))), within(null, 200)} {
		for _, key := range []string{"a", "", "0"} {
			got(t, v, key, null, api.ErrKind)
			takenAway(t, v, key, null, api.ErrKind)
			set(t, v, key, num(1), null, api.ErrKind)
			set(t, v, key, within(null, 200), null, api.ErrKind)
		}
	}
}

// TestKeysOfAny holds the three calls against going through the fields one by one.
func TestKeysOfAny(t *testing.T) {
	m := newMaker(7)
	for range 3000 {
		v, x := m.value(3), m.value(2)
		key := []string{"", "a", "b", "ab", "é", "none"}[m.chance.Intn(6)]
		wantErr := api.OK
		if v.Kind != api.Null && v.Kind != api.Object {
			wantErr = api.ErrKind
		}
		has, with, without := null, obj(), api.Value{Kind: v.Kind}
		found := false
		for _, f := range v.Obj {
			if f.Key == key {
				has, found = f.Val, true
				with.Obj = append(with.Obj, field(key, x))
				continue
			}
			with.Obj = append(with.Obj, f)
			without.Obj = append(without.Obj, f)
		}
		if !found {
			with.Obj = append(with.Obj, field(key, x))
		}
		if wantErr != api.OK {
			has, with, without = null, null, null
		}
		got(t, v, key, has, wantErr)
		set(t, v, key, x, with, wantErr)
		takenAway(t, v, key, without, wantErr)
	}
}
