package place_test

import (
	"slices"
	"sync"
	"testing"

	"lorgnette/api"
	"lorgnette/place"
	"lorgnette/value"
)

// endsWithin tells whether a path has no slice, so that what it leads to is one value.
func endsWithin(path []api.Value) bool {
	return !slices.ContainsFunc(path, func(k api.Value) bool { return k.Kind == api.Object })
}

// TestSetIsGot: what was set is got; a place that was set twice has what was set last.
func TestSetIsGot(t *testing.T) {
	m := newMaker(4)
	done := 0
	for range 10000 {
		v, x, y := m.value(4), m.value(2), m.value(2)
		path := m.path(v, 4)
		if !endsWithin(path) {
			continue
		}
		w, err := place.Set(v, path, x)
		if err != api.OK {
			continue
		}
		done++
		got, err := place.Get(w, notFromEnd(v, path))
		check(t, got, err, x, api.OK, "Get of Set", v, arr(path...), x)
		twice, err := place.Set(w, notFromEnd(v, path), y)
		once, _ := place.Set(v, path, y)
		check(t, twice, err, once, api.OK, "Set, twice", v, arr(path...), x, y)
	}
	if done < 2000 {
		t.Errorf("only %d set", done)
	}
}

// notFromEnd is a path by indexes not below 0, as those may be others where items are set behind the end.
func notFromEnd(v api.Value, path []api.Value) []api.Value {
	var l []api.Value
	for _, k := range path {
		if k.Kind == api.Number && v.Kind == api.Array {
			n, _ := indexOf(k.Num, len(v.Arr))
			l = append(l, num(n))
		} else {
			l = append(l, k)
		}
		v, _ = stepOf(v, k)
	}
	return l
}

// TestPathsAreSetAndTakenAway goes to all that stands in values.
func TestPathsAreSetAndTakenAway(t *testing.T) {
	m := newMaker(5)
	for range 800 {
		v := m.value(4)
		paths, _ := place.Paths(v)
		for _, path := range paths {
			x, err := place.Get(v, path)
			if err != api.OK {
				t.Errorf("Get of %s at %s: %d", show(v), show(arr(path...)), err)
			}
			set(t, v, path, x, v, api.OK)
			w, err := place.Delete(v, [][]api.Value{path})
			if err != api.OK || value.Size(w) != value.Size(v)-value.Size(x) {
				t.Errorf("Delete of %s at %s: %s, %d", show(v), show(arr(path...)), show(w), err)
			}
			got, err := place.Get(w, path)
			check(t, got, err, nextOf(v, path), api.OK, "Get of Delete", v, arr(path...))
		}
		deleted(t, v, paths, hollow(v), api.OK)
		deleted(t, v, append(paths, []api.Value{}), null, api.OK)
	}
}

// nextOf is the item behind the one to which a path leads; Null, if there is none, or where it leads to a key.
func nextOf(v api.Value, path []api.Value) api.Value {
	last := path[len(path)-1]
	if last.Kind != api.Number {
		return null
	}
	n, _ := indexOf(last.Num, 0)
	next, _ := getOf(v, append(slices.Clone(path[:len(path)-1]), num(n+1)))
	return next
}

// TestAnswersMayBe: what is told may be.
func TestAnswersMayBe(t *testing.T) {
	m := newMaker(6)
	for range 3000 {
		v := m.value(4)
		path := m.path(v, 4)
		got, _ := place.Get(v, path)
		with, _ := place.Set(v, path, m.value(3))
		without, _ := place.Delete(v, m.paths(v, 3))
		paths, _ := place.Paths(v)
		for _, w := range []api.Value{got, with, without, asArray(paths)} {
			if !value.May(w) {
				t.Errorf("of %s at %s: %s may not be", show(v), show(arr(path...)), show(w))
			}
		}
	}
}

// TestArgumentsStay: what is handed in stays as it is, and answers share nothing with it, nor their parts with each other.
func TestArgumentsStay(t *testing.T) {
	m := newMaker(7)
	shared := []api.Value{num(1000000007), of(`{"a":[1],"b":2.5}`), of(`[3,[4]]`)}
	for range 3000 {
		v, x := m.value(4), m.value(2)
		switch m.below(3) {
		case 0:
			v = arr(arr(shared...), arr(shared[:2]...), v)
		case 1:
			v = obj(field("a", arr(shared...)), field("b", shared[1]), field("é", v))
			x = v
		}
		path, paths := m.path(v, 4), m.paths(v, 3)
		was := twin(arr(v, x, arr(path...), asArray(paths)))
		sharesNothing(t, func() api.Value { return told(place.Step(v, m0(path))) })
		sharesNothing(t, func() api.Value { return told(place.Get(v, path)) })
		sharesNothing(t, func() api.Value { return told(place.Set(v, path, x)) })
		sharesNothing(t, func() api.Value { return told(place.Delete(v, paths)) })
		sharesNothing(t, func() api.Value { return told(place.Delete(v, nil)) })
		sharesNothing(t, func() api.Value {
			list, _ := place.Paths(v)
			return asArray(list)
		})
		if now := arr(v, x, arr(path...), asArray(paths)); !same(now, was) {
			t.Fatalf("handed in: %s, now: %s", show(was), show(now))
		}
	}
}

// m0 is a path's first step; 0, if it has none.
func m0(path []api.Value) api.Value {
	if len(path) == 0 {
		return num(0)
	}
	return path[0]
}

func told(v api.Value, _ api.Errno) api.Value { return v }

// sharesNothing spoils what a call told, part by part, and asks once more.
func sharesNothing(t *testing.T, call func() api.Value) {
	t.Helper()
	first := call()
	was := twin(first)
	for i, item := range first.Arr[:min(9, len(first.Arr))] { // of a long array, the others are mostly Null
		spoil(item)
		if !same(arr(first.Arr[i+1:]...), arr(was.Arr[i+1:]...)) {
			t.Errorf("%s: its parts share something", show(was))
		}
	}
	for i, f := range first.Obj {
		spoil(f.Val)
		if !same(obj(first.Obj[i+1:]...), obj(was.Obj[i+1:]...)) {
			t.Errorf("%s: its parts share something", show(was))
		}
	}
	spoil(first)
	if again := call(); !same(again, was) {
		t.Errorf("told: %s, once more: %s", show(was), show(again))
	}
}

// TestFromManySides calls from many sides at the same time.
func TestFromManySides(t *testing.T) {
	v, paths := of(`{"a":[1,{"b":[2,3]}],"c":"d"}`), pathsOf(of(`[["a",1,"b",0],["c"],["a",0]]`))
	var all sync.WaitGroup
	for range 8 {
		all.Go(func() {
			for range 200 {
				got, err := place.Get(v, paths[0])
				check(t, got, err, num(2), api.OK, "Get", v, arr(paths[0]...))
				set(t, v, paths[0], arr(v), of(`{"a":[1,{"b":[[{"a":[1,{"b":[2,3]}],"c":"d"}],3]}],"c":"d"}`), api.OK)
				deleted(t, v, paths, of(`{"a":[{"b":[3]}]}`), api.OK)
				listed(t, v, of(`[["a"],["a",0],["a",1],["a",1,"b"],["a",1,"b",0],["a",1,"b",1],["c"]]`))
			}
		})
	}
	all.Wait()
}
