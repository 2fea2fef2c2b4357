package place_test

import (
	"math/big"
	"slices"
	"testing"

	"lorgnette/api"
	"lorgnette/dec"
	"lorgnette/place"
	"lorgnette/value"
)

// The document's words, one by one, and everything made anew at each step. Values and paths may be.

// rounded is a number's Floor, or Ceil, by the library; false, if it isn't from -2 to the 53 to 2 to the 53.
func rounded(d api.Dec, up bool) (int, bool) {
	s, _ := dec.Text(d)
	r, _ := new(big.Rat).SetString(s)
	n := new(big.Int).Div(r.Num(), r.Denom()) // rounds down, as denominators are above 0
	if up && !r.IsInt() {
		n.Add(n, big.NewInt(1))
	}
	if n.CmpAbs(big.NewInt(1<<53)) > 0 {
		return 0, false
	}
	return int(n.Int64()), true
}

func indexOf(d api.Dec, count int) (int, bool) {
	n, in := rounded(d, false)
	if n < 0 {
		n += count
	}
	return n, in
}

func boundsOf(k api.Value, count int) (from, to int, in bool) {
	start, _ := value.Get(k, "start")
	end, _ := value.Get(k, "end")
	from, to, in = 0, count, true
	if start.Kind == api.Number {
		n, ok := rounded(start.Num, false)
		from, in = n, in && ok
	}
	if end.Kind == api.Number {
		n, ok := rounded(end.Num, true)
		to, in = n, in && ok
	}
	for _, at := range []*int{&from, &to} {
		if *at < 0 {
			*at += count
		}
		if *at < 0 {
			*at = 0
		}
		if *at > count {
			*at = count
		}
	}
	if to < from {
		to = from
	}
	return from, to, in
}

// isSlice: an object that has nothing but the keys start and end, both, each with a number or Null.
func isSlice(k api.Value) bool {
	if k.Kind != api.Object || len(k.Obj) != 2 {
		return false
	}
	for _, f := range k.Obj {
		if f.Key != "start" && f.Key != "end" || f.Val.Kind != api.Number && f.Val.Kind != api.Null {
			return false
		}
	}
	return true
}

func isStep(k api.Value) bool {
	return k.Kind == api.Text || k.Kind == api.Number || isSlice(k)
}

// stepOf is P12.1.
func stepOf(v, k api.Value) (api.Value, api.Errno) {
	switch {
	case k.Kind == api.Text:
		return value.Get(v, k.Str)
	case !isStep(k):
		return null, api.ErrKind
	case v.Kind == api.Null:
		return null, api.OK
	case k.Kind == api.Number && v.Kind == api.Array:
		n, in := indexOf(k.Num, len(v.Arr))
		if !in {
			return null, api.ErrRange
		}
		if n < 0 || n >= len(v.Arr) {
			return null, api.OK
		}
		return v.Arr[n], api.OK
	case isSlice(k) && v.Kind == api.Array:
		from, to, in := boundsOf(k, len(v.Arr))
		if !in {
			return null, api.ErrRange
		}
		return arr(v.Arr[from:to]...), api.OK
	case isSlice(k) && v.Kind == api.Text:
		points := []rune(v.Str)
		from, to, in := boundsOf(k, len(points))
		if !in {
			return null, api.ErrRange
		}
		return text(string(points[from:to])), api.OK
	}
	return null, api.ErrKind
}

// getOf is P12.2.
func getOf(v api.Value, path []api.Value) (api.Value, api.Errno) {
	for _, k := range path {
		var err api.Errno
		if v, err = stepOf(v, k); err != api.OK {
			return null, err
		}
	}
	return v, api.OK
}

// setOf is P12.3.
func setOf(v api.Value, path []api.Value, x api.Value) (api.Value, api.Errno) {
	if len(path) == 0 {
		return x, api.OK
	}
	y, err := stepOf(v, path[0])
	if err != api.OK {
		return null, err
	}
	z, err := setOf(y, path[1:], x)
	if err != api.OK {
		return null, err
	}
	w, err := withAt(v, path[0], z)
	if err == api.OK && value.Depth(w) > 200 {
		return null, api.ErrDepth
	}
	return w, err
}

// withAt is v with z at k.
func withAt(v, k, z api.Value) (api.Value, api.Errno) {
	switch {
	case k.Kind == api.Text:
		return value.With(v, k.Str, z)
	case v.Kind != api.Array && v.Kind != api.Null:
		return null, api.ErrKind
	case k.Kind == api.Number:
		n, in := indexOf(k.Num, len(v.Arr))
		if !in || n < 0 {
			return null, api.ErrRange
		}
		if n > 65535 {
			return null, api.ErrSize
		}
		w := twin(v)
		for len(w.Arr) <= n {
			w.Arr = append(w.Arr, null)
		}
		w.Arr[n] = z
		return arr(w.Arr...), api.OK
	case z.Kind != api.Array:
		return null, api.ErrKind
	}
	from, to, in := boundsOf(k, len(v.Arr))
	if !in {
		return null, api.ErrRange
	}
	return arr(slices.Concat(v.Arr[:from], z.Arr, v.Arr[to:])...), api.OK
}

// deleteOf is P12.4.
func deleteOf(v api.Value, paths [][]api.Value) (api.Value, api.Errno) {
	order := func(a, b []api.Value) int {
		n, _ := value.Cmp(arr(a...), arr(b...))
		return n
	}
	paths = slices.Clone(paths)
	slices.SortFunc(paths, func(a, b []api.Value) int { return order(b, a) })
	for i, path := range paths {
		if i > 0 && order(path, paths[i-1]) == 0 {
			continue
		}
		var err api.Errno
		if v, err = deleteOneOf(v, path); err != api.OK {
			return null, err
		}
	}
	return v, api.OK
}

func deleteOneOf(v api.Value, path []api.Value) (api.Value, api.Errno) {
	switch len(path) {
	case 0:
		return null, api.OK
	case 1:
		return deleteStepOf(v, path[0])
	}
	y, err := stepOf(v, path[0])
	if err != api.OK || y.Kind == api.Null {
		return v, err
	}
	z, err := deleteOneOf(y, path[1:])
	if err != api.OK {
		return null, err
	}
	return setOf(v, path[:1], z)
}

func deleteStepOf(v, k api.Value) (api.Value, api.Errno) {
	switch {
	case !isStep(k):
		return null, api.ErrKind
	case v.Kind == api.Null:
		return null, api.OK
	case k.Kind == api.Text:
		return value.Without(v, k.Str)
	case v.Kind != api.Array:
		return null, api.ErrKind
	}
	from, to, in := 0, 0, false
	if isSlice(k) {
		from, to, in = boundsOf(k, len(v.Arr))
	} else if from, in = indexOf(k.Num, len(v.Arr)); from >= 0 && from < len(v.Arr) {
		to = from + 1
	} else {
		from = 0
	}
	if !in {
		return null, api.ErrRange
	}
	return arr(slices.Concat(v.Arr[:from], v.Arr[to:])...), api.OK
}

// listOf is P12.5.
func listOf(v api.Value) [][]api.Value {
	var l [][]api.Value
	add := func(k, y api.Value) {
		l = append(l, []api.Value{k})
		for _, rest := range listOf(y) {
			l = append(l, append([]api.Value{k}, rest...))
		}
	}
	for i, item := range v.Arr {
		add(num(i), item)
	}
	for _, f := range v.Obj {
		add(text(f.Key), f.Val)
	}
	return l
}

// TestAgainstTheWords holds all calls against the words, over values and paths of any kind.
func TestAgainstTheWords(t *testing.T) {
	m := newMaker(1)
	ends := map[string]int{}
	for range 20000 {
		v, x := m.value(3), m.value(2)
		path := m.path(v, 4)

		want, wantErr := getOf(v, path)
		got, err := place.Get(v, path)
		check(t, got, err, want, wantErr, "Get", v, arr(path...))
		ends["Get"+string(rune('0'+err))]++

		want, wantErr = setOf(v, path, x)
		got, err = place.Set(v, path, x)
		check(t, got, err, want, wantErr, "Set", v, arr(path...), x)
		ends["Set"+string(rune('0'+err))]++

		paths := m.paths(v, m.below(4))
		want, wantErr = deleteOf(v, paths)
		got, err = place.Delete(v, paths)
		check(t, got, err, want, wantErr, "Delete", v, asArray(paths))
		ends["Delete"+string(rune('0'+err))]++

		k := m.step(v)
		want, wantErr = stepOf(v, k)
		got, err = place.Step(v, k)
		check(t, got, err, want, wantErr, "Step", v, k)

		list, err := place.Paths(v)
		check(t, asArray(list), err, asArray(listOf(v)), api.OK, "Paths", v)
	}
	for _, end := range []string{"Get0", "Get3", "Get9", "Set0", "Set3", "Set9", "Delete0", "Delete3", "Delete9"} {
		if ends[end] < 150 {
			t.Errorf("%s: only %d times", end, ends[end])
		}
	}
}

// TestLongWays goes many steps, most of them slices.
func TestLongWays(t *testing.T) {
	m := newMaker(2)
	done := 0
	for range 3000 {
		v := within(arr(m.value(2), m.value(2), m.value(1), m.value(1)), m.below(2))
		path := []api.Value{}
		for at := v; len(path) < 12; {
			k := m.step(at)
			if at.Kind == api.Array && m.below(3) > 0 {
				k = m.slice()
			}
			path = append(path, k)
			at, _ = stepOf(at, k)
		}
		path = path[:m.below(13)]
		x := m.value(1)
		if m.below(2) == 0 {
			x = arr(x, x)
		}
		want, wantErr := setOf(v, path, x)
		got, err := place.Set(v, path, x)
		check(t, got, err, want, wantErr, "Set", v, arr(path...), x)
		want, wantErr = deleteOf(v, [][]api.Value{path})
		got, err = place.Delete(v, [][]api.Value{path})
		check(t, got, err, want, wantErr, "Delete", v, arr(path...))
		if err == api.OK && !same(got, v) {
			done++
		}
	}
	if done < 300 {
		t.Errorf("only %d changes", done)
	}
}
