package value_test

import (
	"cmp"
	"math/big"
	"slices"
	"sort"
	"testing"

	"lorgnette/api"
	"lorgnette/dec"
	"lorgnette/value"
)

// worth is a number's, reckoned with the library.
func worth(d api.Dec) *big.Rat {
	text, err := dec.Text(d)
	if err != api.OK {
		panic("not a number that may be")
	}
	r, ok := new(big.Rat).SetString(text)
	if !ok {
		panic(text)
	}
	return r
}

// orderOf holds values against each other in the document's words, going about it by lists.
func orderOf(a, b api.Value) int {
	if a.Kind != b.Kind {
		return cmp.Compare(a.Kind, b.Kind)
	}
	switch a.Kind {
	case api.Number:
		return worth(a.Num).Cmp(worth(b.Num))
	case api.Text:
		return slices.Compare([]rune(a.Str), []rune(b.Str))
	case api.Array:
		return orderOfLists(a.Arr, b.Arr)
	case api.Object:
		keys, more := keysOf(a), keysOf(b)
		if order := orderOfLists(keys, more); order != 0 {
			return order
		}
		return orderOfLists(whatItHas(a, keys), whatItHas(b, more))
	}
	return 0
}

func orderOfLists(a, b []api.Value) int {
	for i := range min(len(a), len(b)) {
		if order := orderOf(a[i], b[i]); order != 0 {
			return order
		}
	}
	return cmp.Compare(len(a), len(b))
}

// keysOf are an object's keys in order, as texts.
func keysOf(v api.Value) []api.Value {
	var l []api.Value
	for _, f := range v.Obj {
		l = append(l, text(f.Key))
	}
	sort.Slice(l, func(i, k int) bool { return orderOf(l[i], l[k]) < 0 })
	return l
}

// whatItHas is what an object has for keys.
func whatItHas(v api.Value, keys []api.Value) []api.Value {
	var l []api.Value
	for _, key := range keys {
		for _, f := range v.Obj {
			if f.Key == key.Str {
				l = append(l, f.Val)
			}
		}
	}
	return l
}

// compared is Cmp of two that may be.
func compared(t *testing.T, a, b api.Value) int {
	t.Helper()
	order, err := value.Cmp(a, b)
	if err != api.OK {
		t.Errorf("Cmp %s and %s: error %d", show(a), show(b), err)
	}
	return order
}

// TestOrderByHand goes through values written down in their order.
func TestOrderByHand(t *testing.T) {
	ten, thousand := literal("10"), literal("1e3")
	l := []api.Value{
		null, falsum, verum,
		literal("-1e10000"), literal("-1000"), literal("-999.5"), num(-1), literal("-0.1"), literal("-1e-10000"), num(0), literal("1e-10000"), literal("0.5"), num(1), literal("9.99"), ten, num(11), thousand, literal("1e10000"),
		text(""), text("\x00"), text("A"), text("a"), text("a\x00"), text("aa"), text("ab"), text("b"), text("é"), text("\uffff"), text("\U00010000"),
		arr(), arr(null), arr(null, null), arr(null, arr()), arr(num(1)), arr(num(1), num(1)), arr(num(1), num(9)), arr(num(2)), arr(num(2), null), arr(text("a")), arr(arr()), arr(arr(), arr()), arr(arr(null)), arr(obj()),
		obj(), obj(field("", num(9))), obj(field("a", num(9))), obj(field("a", text(""))),
		obj(field("b", num(1)), field("a", num(9))), obj(field("a", num(9)), field("b", num(2))), obj(field("b", null), field("a", num(10))),
		obj(field("c", num(0)), field("b", num(0)), field("a", num(0))), obj(field("a", null), field("c", null)),
		obj(field("b", null)), obj(field("b", obj(field("x", num(1)), field("y", num(1))))), obj(field("b", obj(field("y", num(2)), field("x", num(1))))), obj(field("b", obj(field("y", num(1)), field("x", num(2))))),
		obj(field("é", null)), obj(field("\uffff", null)), obj(field("\U00010000", null)),
	}
	for i := range l {
		for k := range l {
			if got, want := compared(t, l[i], l[k]), cmp.Compare(i, k); got != want {
				t.Errorf("Cmp %s and %s: %d, not %d", show(l[i]), show(l[k]), got, want)
			}
		}
	}
}

func TestOrderExamples(t *testing.T) {
	one, two, nine := num(1), num(2), num(9)
	for _, c := range []struct {
		a, b api.Value
		want int
	}{
		{obj(field("b", one), field("a", two)), obj(field("a", two), field("b", one)), 0},
		{arr(two), arr(one, nine), 1}, {text("a"), one, 1}, {arr(one, nine), arr(one), 1}, {arr(), obj(), -1},
		{within(one, 199), within(two, 199), -1}, {withinObjects(one, 200), withinObjects(one, 200), 0},
		{arr(obj(field("x", one), field("y", two))), arr(obj(field("y", two), field("x", one))), 0},
		{obj(field("k", obj(field("x", one), field("y", two)))), obj(field("k", obj(field("y", two), field("x", one)))), 0},
	} {
		if got := compared(t, c.a, c.b); got != c.want {
			t.Errorf("Cmp %s and %s: %d", show(c.a), show(c.b), got)
		}
		if got := compared(t, c.b, c.a); got != -c.want {
			t.Errorf("Cmp %s and %s: %d", show(c.b), show(c.a), got)
		}
	}
}

func TestOrderOfAny(t *testing.T) {
	m := newMaker(4)
	l := append(ordinary(), m.values(120, 3)...)
	for _, a := range l {
		for _, b := range l {
			if got, want := compared(t, a, b), orderOf(a, b); got != want {
				t.Errorf("Cmp %s and %s: %d, not %d", show(a), show(b), got, want)
			}
		}
	}
}

// TestOrderOfMuchAlike holds values against ones that differ in one place alone, if at all.
func TestOrderOfMuchAlike(t *testing.T) {
	m := newMaker(5)
	for range 2000 {
		a := arr(m.values(3, 4)...)
		b := m.shuffled(a)
		if got := compared(t, a, b); got != 0 {
			t.Errorf("Cmp %s and %s: %d", show(a), show(b), got)
		}
		put(m, &b, m.value(1))
		if got, want := compared(t, a, b), orderOf(a, b); got != want {
			t.Errorf("Cmp %s and %s: %d, not %d", show(a), show(b), got, want)
		}
	}
}

func TestSortByHand(t *testing.T) {
	ab, ba := obj(field("a", num(1)), field("b", num(2))), obj(field("b", num(2)), field("a", num(1)))
	for _, c := range []struct{ l, want []api.Value }{
		{nil, nil}, {[]api.Value{}, nil}, {[]api.Value{verum}, []api.Value{verum}},
		{[]api.Value{num(3), num(1), num(2)}, []api.Value{num(1), num(2), num(3)}},
		{[]api.Value{obj(), arr(), text(""), num(0), verum, falsum, null}, []api.Value{null, falsum, verum, num(0), text(""), arr(), obj()}},
		{[]api.Value{text("b"), text("a"), text("b"), text("a")}, []api.Value{text("a"), text("a"), text("b"), text("b")}},
		{[]api.Value{ab, ba, null}, []api.Value{null, ab, ba}}, {[]api.Value{ba, ab, null}, []api.Value{null, ba, ab}},
		{[]api.Value{arr(ba), arr(), arr(ab), arr(ba)}, []api.Value{arr(), arr(ba), arr(ab), arr(ba)}},
		{[]api.Value{within(num(2), 200), within(num(1), 200)}, []api.Value{within(num(1), 200), within(num(2), 200)}},
	} {
		got, err := value.Sort(c.l)
		if !sameAll(got, c.want) || err != api.OK {
			t.Errorf("Sort %s: %s, %d", showAll(c.l), showAll(got), err)
		}
	}
}

// TestSortStays: those that are the same stay as they were handed in, also where there are many.
func TestSortStays(t *testing.T) {
	m := newMaker(6)
	for _, count := range []int{2, 5, 13, 50, 700} {
		for range 20 {
			sortedAsItShould(t, m, count)
		}
	}
}

// sortedAsItShould sorts values of which many are the same, but for where fields stand.
func sortedAsItShould(t *testing.T, m maker, count int) {
	t.Helper()
	few := []api.Value{null, num(1), text("a"), obj(field("a", num(1)), field("b", num(2)), field("c", num(3))), arr(obj(field("x", null), field("y", null), field("z", null)))}
	l := m.values(count/4, 2)
	for len(l) < count {
		l = append(l, m.shuffled(few[m.chance.Intn(len(few))]))
	}
	m.chance.Shuffle(count, func(i, k int) { l[i], l[k] = l[k], l[i] })
	want := slices.Clone(l)
	slices.SortStableFunc(want, orderOf)
	got, err := value.Sort(l)
	if !sameAll(got, want) || err != api.OK {
		t.Errorf("Sort of %d: %d, %s", count, err, showAll(l))
	}
}
