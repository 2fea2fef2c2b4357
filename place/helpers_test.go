package place_test

import (
	"math/rand"
	"slices"
	"testing"

	"lorgnette/api"
	"lorgnette/sample"
)

// What the tests are written with.
var (
	num       = sample.Num
	text      = sample.Text
	arr       = sample.Arr
	obj       = sample.Obj
	field     = sample.Field
	of        = sample.Of
	within    = sample.Within
	underKeys = sample.UnderKeys
	show      = sample.Show
	same      = sample.Same
	twin      = sample.Twin
	spoil     = sample.Spoil
)

var null = api.Value{}

func part(start, end api.Value) api.Value {
	return obj(field("start", start), field("end", end))
}

// pathsOf are the paths that an array of arrays stands for.
func pathsOf(v api.Value) [][]api.Value {
	var l [][]api.Value
	for _, path := range v.Arr {
		l = append(l, path.Arr)
	}
	return l
}

// asArray is the array of arrays that stands for paths.
func asArray(paths [][]api.Value) api.Value {
	l := arr()
	for _, path := range paths {
		l.Arr = append(l.Arr, arr(path...))
	}
	return l
}

// items are the numbers from 0 on.
func items(count int) api.Value {
	v := arr()
	for i := range count {
		v.Arr = append(v.Arr, num(i))
	}
	return v
}

// check holds what a call told of its arguments against what is wanted.
func check(t *testing.T, got api.Value, err api.Errno, want api.Value, wantErr api.Errno, call string, args ...api.Value) {
	t.Helper()
	if same(got, want) && err == wantErr {
		return
	}
	for _, v := range args {
		call += " " + show(v)
	}
	t.Errorf("%s: %s, %d, not %s, %d", call, show(got), err, show(want), wantErr)
}

// wrong are values that may not be; two of them would be slices.
func wrong() []api.Value {
	return append(sample.Wrong(), part(api.Value{Kind: api.Number, Num: api.Dec{Limbs: []uint32{0}}}, null), obj(field("start", null), field("end", null), field("start", null)))
}

// maker makes values and paths, the same at each run.
type maker struct{ chance *rand.Rand }

func newMaker(seed int64) maker {
	return maker{rand.New(rand.NewSource(seed))}
}

func (m maker) below(n int) int { return m.chance.Intn(n) }

var someKeys = []string{"", "a", "b", "é", "start", "end"}

var someNumbers = []string{"0", "1", "2", "3", "-1", "-2", "-3", "-4", "0.5", "1.5", "-0.5", "-1.5", "2.000000000000000000001", "1e-9999", "-1e-9999", "7", "65535", "65536", "9007199254740992", "9007199254740992.5", "-9007199254740992.5", "9007199254740993", "-1e17", "1e9999"}

// number is any; most times one that is an index of a short array.
func (m maker) number() api.Value {
	if m.below(8) > 0 {
		return of(someNumbers[m.below(12)])
	}
	return of(someNumbers[m.below(len(someNumbers))])
}

// value is any that may be, at most so many levels deep.
func (m maker) value(levels int) api.Value {
	kind := m.below(9)
	if levels == 0 {
		kind = m.below(5)
	}
	switch kind {
	case api.Null, api.False, api.True:
		return api.Value{Kind: kind}
	case api.Number:
		return m.number()
	case api.Text:
		return text([]string{"", "a", "aäb", "a\x00𝄞�c", "\U0010ffff\ud7ff"}[m.below(5)])
	case api.Object, 8:
		v := obj()
		for _, at := range m.chance.Perm(len(someKeys))[:m.below(5)] {
			v.Obj = append(v.Obj, field(someKeys[at], m.value(levels-1)))
		}
		return v
	}
	v := arr()
	for range m.below(5) {
		v.Arr = append(v.Arr, m.value(levels-1))
	}
	return v
}

// slice is one of any bounds; its keys in either order.
func (m maker) slice() api.Value {
	bound := func() api.Value {
		if m.below(3) == 0 {
			return null
		}
		return m.number()
	}
	v := part(bound(), bound())
	if m.below(3) == 0 {
		slices.Reverse(v.Obj)
	}
	return v
}

// step is one that most times leads on from a value.
func (m maker) step(v api.Value) api.Value {
	kind := v.Kind
	if kind < api.Text || m.below(12) == 0 {
		kind = m.below(7)
	}
	switch {
	case kind == api.Null && m.below(3) == 0:
		return m.value(2)
	case kind == api.Object && len(v.Obj) > 0 && m.below(3) > 0:
		return text(v.Obj[m.below(len(v.Obj))].Key)
	case kind == api.Object:
		return text(someKeys[m.below(len(someKeys))])
	case kind == api.Text || m.below(3) == 0:
		return m.slice()
	}
	return m.number()
}

// path is one of up to so many steps that most times leads through a value.
func (m maker) path(v api.Value, most int) []api.Value {
	path := []api.Value{}
	for range m.below(most + 1) {
		k := m.step(v)
		path = append(path, k)
		v, _ = stepOf(v, k)
	}
	return path
}

func (m maker) paths(v api.Value, count int) [][]api.Value {
	l := [][]api.Value{}
	for range count {
		path := m.path(v, 4)
		l = append(l, path)
		if m.below(4) == 0 {
			l = append(l, path)
		}
	}
	return l
}
