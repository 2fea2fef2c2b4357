package value_test

import (
	"strings"
	"testing"

	"lorgnette/api"
	"lorgnette/value"
)

// weight is what a value has, level by level, as the document counts it.
func weight(v api.Value) (values, bytes int) {
	level := []api.Value{v}
	for deep := 0; deep <= 200; deep++ {
		var next []api.Value
		for _, w := range level {
			values++
			bytes += len(w.Str)
			next = append(next, w.Arr...)
			for _, f := range w.Obj {
				bytes += len(f.Key)
				next = append(next, f.Val)
			}
		}
		level = next
	}
	return values, bytes
}

// depthOf is how deep a value is, however deep it is.
func depthOf(v api.Value) int {
	if v.Kind != api.Array && v.Kind != api.Object {
		return 0
	}
	greatest := 0
	for _, item := range v.Arr {
		greatest = max(greatest, depthOf(item))
	}
	for _, f := range v.Obj {
		greatest = max(greatest, depthOf(f.Val))
	}
	return 1 + greatest
}

// weighed holds all three calls against the document's words.
func weighed(t *testing.T, v api.Value) {
	t.Helper()
	if got, want := value.Depth(v), min(201, depthOf(v)); got != want {
		t.Errorf("Depth %s: %d, not %d", show(v), got, want)
	}
	values, bytes := weight(v)
	if got := value.Size(v); got != values {
		t.Errorf("Size %s: %d, not %d", show(v), got, values)
	}
	if got, want := value.Heavy(v), values > 65536 || bytes > 1000000; got != want {
		t.Errorf("Heavy %s: %t", show(v), got)
	}
}

func TestDepthAndSizeByHand(t *testing.T) {
	stray := []api.Value{arr(arr()), null}
	for _, c := range []struct {
		v           api.Value
		depth, size int
	}{
		{null, 0, 1}, {falsum, 0, 1}, {verum, 0, 1}, {num(12), 0, 1}, {text("abc"), 0, 1},
		{arr(), 1, 1}, {obj(), 1, 1}, {arr(arr()), 2, 2}, {arr(num(1), num(2)), 1, 3}, {obj(field("a", num(1))), 1, 2}, {obj(field("a", obj())), 2, 2},
		{arr(num(1), arr(arr(), num(2)), num(3)), 3, 6}, {obj(field("a", null), field("b", arr(null, null))), 2, 5},
		{within(null, 199), 199, 200}, {within(null, 200), 200, 201}, {within(arr(), 200), 201, 201}, {within(null, 201), 201, 201}, {within(null, 1000), 201, 201},
		{withinObjects(null, 200), 200, 201}, {withinObjects(null, 203), 201, 201}, {within(arr(copies(null, 9)...), 199), 200, 209}, {within(arr(copies(null, 9)...), 200), 201, 201},
		{arr(null, within(null, 300), null), 201, 203},
		{api.Value{Arr: stray}, 0, 4}, {api.Value{Kind: 9, Obj: []api.Field{{Val: arr()}}}, 0, 2}, {api.Value{Kind: -1, Arr: stray, Obj: []api.Field{{Val: arr()}}}, 0, 5},
		{api.Value{Kind: api.Array, Obj: []api.Field{{Val: arr(arr())}}}, 3, 3}, {api.Value{Kind: api.Object, Arr: stray}, 3, 4}, {arr(api.Value{Kind: api.Text, Arr: stray}), 1, 5},
		{obj(field("a", null), field("a", null)), 1, 3}, {endless(1), 201, 201}, {endlessObject(), 201, 401},
	} {
		if got := value.Depth(c.v); got != c.depth {
			t.Errorf("Depth %s: %d, not %d", show(c.v), got, c.depth)
		}
		if got := value.Size(c.v); got != c.size {
			t.Errorf("Size %s: %d, not %d", show(c.v), got, c.size)
		}
	}
}

func TestWeights(t *testing.T) {
	m := newMaker(3)
	for range 2000 {
		weighed(t, m.value(5))
		weighed(t, m.nonsense(4))
	}
	for _, v := range ordinary() {
		weighed(t, v)
	}
	for levels := range 6 {
		for _, v := range []api.Value{arr(num(1), num(2)), obj(field("a", null), field("b", arr())), text("abc"), {Kind: 3, Obj: []api.Field{{Key: "k"}}}} {
			weighed(t, within(v, 197+levels))
			weighed(t, withinObjects(v, 197+levels))
			weighed(t, within(withinObjects(v, 100), 97+levels))
		}
	}
}

// bytes is a text of so many.
func bytes(count int) string { return strings.Repeat("x", count) }

func TestHeavyByHand(t *testing.T) {
	const many, much = 65536, 1000000
	keyed := func(count int) api.Value {
		return obj(slicesOf(count, func(i int) api.Field { return field(strings.Repeat("k", i%7), null) })...)
	}
	for i, c := range []struct {
		v    api.Value
		want bool
	}{
		{null, false}, {num(5), false}, {arr(), false},
		{arr(copies(null, many-1)...), false}, {arr(copies(null, many)...), true}, {keyed(many - 1), false}, {keyed(many), true},
		{arr(arr(copies(num(1), 30000)...), arr(copies(num(1), many-30003)...)), false}, {arr(arr(copies(num(1), 30000)...), arr(copies(num(1), many-30002)...)), true},
		{api.Value{Arr: copies(null, many)}, true}, {api.Value{Kind: 77, Obj: slicesOf(many, func(int) api.Field { return api.Field{} })}, true},
		{text(bytes(much)), false}, {text(bytes(much + 1)), true}, {text(strings.Repeat("é", much/2)), false}, {text(strings.Repeat("é", much/2+1)), true},
		{obj(field(bytes(much), null)), false}, {obj(field(bytes(much+1), null)), true}, {obj(field(bytes(much-3), text("abc"))), false}, {obj(field(bytes(much-3), text("abcd"))), true},
		{arr(text(bytes(400000)), obj(field(bytes(300000), null), field("", text(bytes(300000))))), false}, {arr(text(bytes(400000)), obj(field(bytes(300000), null), field("x", text(bytes(300000))))), true},
		{api.Value{Kind: api.Number, Str: bytes(much)}, false}, {api.Value{Kind: api.Number, Str: bytes(much + 1)}, true},
		{within(text(bytes(much+1)), 200), true}, {within(text(bytes(much+1)), 201), false}, {within(arr(copies(null, many)...), 199), true}, {within(arr(copies(null, many)...), 200), false},
		{within(obj(field(bytes(much+1), null)), 199), true}, {within(obj(field(bytes(much+1), null)), 200), true}, {within(obj(field(bytes(much+1), null)), 201), false},
		{within(arr(copies(null, many-200)...), 199), false}, {within(arr(copies(null, many-199)...), 199), true},
		{endless(1), false}, {endless(2), true}, {endless(70000), true},
	} {
		if got := value.Heavy(c.v); got != c.want {
			t.Errorf("%d: Heavy: %t", i, got)
		}
	}
}

func slicesOf(count int, make1 func(i int) api.Field) []api.Field {
	l := make([]api.Field, count)
	for i := range l {
		l[i] = make1(i)
	}
	return l
}

// TestEnds: a value that has itself more than once would have more values than anyone can count.
func TestEnds(t *testing.T) {
	for _, v := range []api.Value{endless(2), endless(3), arr(num(1), endless(40)), obj(field("a", endless(2)))} {
		if value.May(v) || value.Depth(v) != 201 || !value.Heavy(v) {
			t.Error("of a value that has itself")
		}
	}
	v := null
	for range 150 {
		v = arr(v, v)
	}
	if !value.Heavy(v) {
		t.Error("Heavy of a value of two to the 150: false")
	}
}
