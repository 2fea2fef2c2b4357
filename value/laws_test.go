package value_test

import (
	"slices"
	"sync"
	"testing"

	"lorgnette/api"
	"lorgnette/value"
)

// TestOrderIsOne: it goes through, and back about.
func TestOrderIsOne(t *testing.T) {
	m := newMaker(8)
	l := append(ordinary(), m.values(60, 3)...)
	orders := make([][]int, len(l))
	for i, a := range l {
		if compared(t, a, m.shuffled(a)) != 0 {
			t.Errorf("%s isn't the same as itself", show(a))
		}
		for _, b := range l {
			orders[i] = append(orders[i], compared(t, a, b))
		}
	}
	for a := range l {
		for b := range l {
			if orders[a][b] != -orders[b][a] {
				t.Errorf("the order of %s and %s, turned round", show(l[a]), show(l[b]))
			}
			for c := range l {
				if ab, bc := orders[a][b], orders[b][c]; ab <= 0 && bc <= 0 && orders[a][c] != min(ab, bc) {
					t.Errorf("the order of %s, %s and %s goes in a ring", show(l[a]), show(l[b]), show(l[c]))
				}
			}
		}
	}
}

// TestSameMeansSame: values that are the same differ in nothing but in where fields stand.
func TestSameMeansSame(t *testing.T) {
	m := newMaker(9)
	l := append(ordinary(), m.values(150, 2)...)
	ordered := make([]api.Value, len(l))
	for i, v := range l {
		ordered[i] = inOrder(v)
	}
	for i, a := range l {
		for k, b := range l {
			if order := compared(t, a, b); (order == 0) != same(ordered[i], ordered[k]) {
				t.Errorf("Cmp %s and %s: %d", show(a), show(b), order)
			}
		}
	}
}

// TestSetGotTakenAway: what was set is got, and taken away again.
func TestSetGotTakenAway(t *testing.T) {
	m := newMaker(10)
	for range 3000 {
		v, x := m.value(4), m.value(3)
		if v.Kind != api.Null && v.Kind != api.Object {
			continue
		}
		key := someTexts[m.chance.Intn(len(someTexts))]
		w, err := value.With(v, key, x)
		if err != api.OK || !value.May(w) {
			t.Errorf("With of %s, %q: %s, %d", show(v), key, show(w), err)
		}
		got(t, w, key, x, api.OK)
		set(t, w, key, x, w, api.OK)
		before, _ := value.Without(v, key)
		before.Kind = api.Object
		takenAway(t, w, key, before, api.OK)
	}
}

// TestSortedIsSorted: it is in order, and has the same values.
func TestSortedIsSorted(t *testing.T) {
	m := newMaker(11)
	for range 200 {
		l := m.values(m.chance.Intn(40), 2)
		sorted, err := value.Sort(l)
		if err != api.OK || len(sorted) != len(l) {
			t.Fatalf("Sort %s: %d, %d", showAll(l), len(sorted), err)
		}
		for i := 1; i < len(sorted); i++ {
			if compared(t, sorted[i-1], sorted[i]) > 0 {
				t.Errorf("sorted: %s ahead of %s", show(sorted[i-1]), show(sorted[i]))
			}
		}
		for _, v := range l {
			if count(l, v) != count(sorted, v) {
				t.Errorf("%s: so often in %s, and in %s sorted", show(v), showAll(l), showAll(sorted))
			}
		}
		again, _ := value.Sort(sorted)
		if !sameAll(again, sorted) {
			t.Errorf("sorted once more: %s", showAll(again))
		}
	}
}

func count(l []api.Value, v api.Value) int {
	n := 0
	for _, w := range l {
		if same(v, w) {
			n++
		}
	}
	return n
}

// TestArgumentsStay: what is handed in stays as it is, and answers share nothing with it, nor with each other.
func TestArgumentsStay(t *testing.T) {
	m := newMaker(12)
	for _, v := range append(ordinary(), m.values(400, 4)...) {
		l := []api.Value{v, obj(field("a", v), field("b", m.value(2)), field("é", arr(v))), arr(v, v), v, m.value(3)}
		l = slices.DeleteFunc(l, func(v api.Value) bool { return !value.May(v) })
		was := twins(l)
		for i, w := range l {
			value.May(w)
			value.Depth(w)
			value.Size(w)
			value.Heavy(w)
			value.Cmp(w, l[len(l)-1-i])
			sharesNothing(t, func() api.Value { return told(value.Get(w, "a")) })
			sharesNothing(t, func() api.Value { return told(value.With(w, "b", v)) })
			sharesNothing(t, func() api.Value { return told(value.With(w, "none", v)) })
			sharesNothing(t, func() api.Value { return told(value.Without(w, "b")) })
			sharesNothing(t, func() api.Value { return told(value.Without(w, "none")) })
		}
		sharesNothing(t, func() api.Value {
			sorted, _ := value.Sort(l)
			return arr(sorted...)
		})
		if !sameAll(l, was) {
			t.Fatalf("handed in: %s, now: %s", showAll(was), showAll(l))
		}
	}
}

func told(v api.Value, _ api.Errno) api.Value { return v }

// sharesNothing spoils what a call told, part by part, and asks once more.
func sharesNothing(t *testing.T, call func() api.Value) {
	t.Helper()
	first := call()
	was := twin(first)
	for i, item := range first.Arr {
		spoil(item)
		if !sameAll(first.Arr[i+1:], was.Arr[i+1:]) {
			t.Errorf("%s: its parts share something", show(was))
		}
	}
	for i, f := range first.Obj {
		spoil(f.Val)
		if !same(obj(first.Obj[i+1:]...), obj(was.Obj[i+1:]...)) {
			t.Errorf("%s: its parts share something", show(was))
		}
	}
	spoil(first)
	if again := call(); !same(again, was) {
		t.Errorf("told: %s, once more: %s", show(was), show(again))
	}
}

// TestFromManySides calls from many sides at the same time.
func TestFromManySides(t *testing.T) {
	m := newMaker(13)
	v, l := obj(field("a", arr(m.values(9, 3)...)), field("b", m.value(3))), m.values(30, 3)
	want, _ := value.Sort(l)
	var all sync.WaitGroup
	for range 8 {
		all.Go(func() {
			for range 30 {
				got(t, v, "b", v.Obj[1].Val, api.OK)
				set(t, v, "b", null, obj(v.Obj[0], field("b", null)), api.OK)
				if sorted, err := value.Sort(l); !sameAll(sorted, want) || err != api.OK {
					t.Errorf("Sort: %s, %d", showAll(sorted), err)
				}
			}
		})
	}
	all.Wait()
}
