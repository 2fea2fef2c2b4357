package place_test

import (
	"slices"
	"testing"

	"lorgnette/api"
	"lorgnette/place"
)

// refused hands a value that may not be to each call, at each place.
func refused(t *testing.T, bad, v api.Value, path []api.Value) {
	t.Helper()
	refuse := func(call string) func(got api.Value, err api.Errno) {
		return func(got api.Value, err api.Errno) {
			t.Helper()
			check(t, got, err, null, api.ErrArg, call, v, arr(path...), bad)
		}
	}
	step, get, set, remove := refuse("Step"), refuse("Get"), refuse("Set"), refuse("Delete")
	step(place.Step(bad, num(0)))
	step(place.Step(v, bad))
	step(place.Step(bad, bad))
	get(place.Get(bad, path))
	set(place.Set(bad, path, v))
	set(place.Set(v, path, bad))
	remove(place.Delete(bad, nil))
	remove(place.Delete(bad, [][]api.Value{path}))
	for at := range len(path) + 1 {
		worse := slices.Insert(slices.Clone(path), at, bad)
		get(place.Get(v, worse))
		set(place.Set(v, worse, v))
		remove(place.Delete(v, [][]api.Value{worse}))
		remove(place.Delete(v, [][]api.Value{path, worse}))
		remove(place.Delete(v, [][]api.Value{worse, {}}))
	}
	list, err := place.Paths(bad)
	refuse("Paths")(api.Value{Arr: asArray(list).Arr}, err)
}

// TestErrArg: what may not be is the error, whatever else goes wrong, or isn't reached.
func TestErrArg(t *testing.T) {
	paths := pathsOf(of(`[[],["a"],[0],[0,0],["a",true],[1e17],[[],{}],["a","b","c"],[{"start":0,"end":1}]]`))
	for _, bad := range wrong() {
		for _, v := range oneOfEach() {
			for _, path := range paths {
				refused(t, bad, v, path)
			}
			refused(t, arr(null, bad), v, paths[1])
			refused(t, obj(field("a", bad)), v, paths[1])
			refused(t, part(bad, null), v, paths[2])
		}
	}
}

// TestDeepSteps: a step 200 deep may be; a path that has it, as an array, may not.
func TestDeepSteps(t *testing.T) {
	deep, deeper := within(null, 199), within(null, 200)
	for _, k := range []api.Value{deep, deeper, underKeys(num(1), 200), part(deep, null)} {
		stepped(t, arr(), k, null, api.ErrKind)
		set(t, arr(), []api.Value{k}, num(1), null, api.ErrKind)
		set(t, null, []api.Value{num(0), k}, num(1), null, api.ErrKind)
	}
	for _, v := range []api.Value{null, arr(), of(`{"a":1}`)} {
		deleted(t, v, [][]api.Value{{deep}}, null, api.ErrKind)
		deleted(t, v, [][]api.Value{{deeper}}, null, api.ErrArg)
		deleted(t, v, [][]api.Value{{underKeys(num(1), 200)}}, null, api.ErrArg)
		deleted(t, v, [][]api.Value{{}, {text("x"), deeper}}, null, api.ErrArg)
	}
	deleted(t, obj(), [][]api.Value{{text("x"), deep}}, obj(), api.OK)
}

// TestLongPaths: no path is too long.
func TestLongPaths(t *testing.T) {
	const count = 200000
	all, key := slices.Repeat([]api.Value{part(num(0), null)}, count), slices.Repeat([]api.Value{text("a")}, count)
	v := of(`[1,[2]]`)

	got, err := place.Get(v, all)
	check(t, got, err, v, api.OK, "Get at many slices")
	got, err = place.Get(text("ab"), all)
	check(t, got, err, text("ab"), api.OK, "Get of a text at many slices")
	got, err = place.Set(v, all, of(`[3]`))
	check(t, got, err, of(`[3]`), api.OK, "Set at many slices")
	got, err = place.Set(v, append(slices.Clone(all), num(1), num(1)), num(3))
	check(t, got, err, of(`[1,[2,3]]`), api.OK, "Set at many slices and an index")
	got, err = place.Delete(v, [][]api.Value{append(slices.Clone(all), num(0))})
	check(t, got, err, of(`[[2]]`), api.OK, "Delete at many slices and an index")

	got, err = place.Get(null, key)
	check(t, got, err, null, api.OK, "Get at many keys")
	got, err = place.Set(null, key, num(1))
	check(t, got, err, null, api.ErrDepth, "Set at many keys")
	got, err = place.Set(null, append(slices.Clone(key), null), num(1))
	check(t, got, err, null, api.ErrKind, "Set at many keys and no step")
	got, err = place.Delete(obj(), [][]api.Value{key})
	check(t, got, err, obj(), api.OK, "Delete at many keys")
}
