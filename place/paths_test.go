package place_test

import (
	"testing"

	"lorgnette/api"
	"lorgnette/place"
	"lorgnette/value"
)

func listed(t *testing.T, v, want api.Value) {
	t.Helper()
	got, err := place.Paths(v)
	check(t, asArray(got), err, want, api.OK, "Paths", v)
}

func TestPaths(t *testing.T) {
	for v, want := range map[string]string{
		`null`: `[]`, `true`: `[]`, `5`: `[]`, `"abc"`: `[]`, `[]`: `[]`, `{}`: `[]`,
		`[5]`: `[[0]]`, `[[5]]`: `[[0],[0,0]]`, `[null,false,[]]`: `[[0],[1],[2]]`, `{"b":1,"a":null,"":2}`: `[["b"],["a"],[""]]`,
		`{"b":[1,{"x":2}],"a":{"y":[]}}`: `[["b"],["b",0],["b",1],["b",1,"x"],["a"],["a","y"]]`,
		`[[[0,1],2],3,[{"é":4},5]]`:      `[[0],[0,0],[0,0,0],[0,0,1],[0,1],[1],[2],[2,0],[2,0,"é"],[2,1]]`,
		`{"start":1,"end":{"start":2}}`:  `[["start"],["end"],["end","start"]]`,
	} {
		listed(t, of(v), of(want))
	}
}

// TestPathsDown goes down as far as may be, and through many items.
func TestPathsDown(t *testing.T) {
	want, path := arr(), []api.Value{}
	for range 200 {
		path = append(path, num(0))
		want.Arr = append(want.Arr, twin(arr(path...)))
	}
	listed(t, within(null, 200), want)
	listed(t, within(arr(), 199), arr(want.Arr[:199]...))

	v, want := arr(), arr()
	for i := range 12000 {
		v.Arr = append(v.Arr, arr(text("x")))
		want.Arr = append(want.Arr, arr(num(i)), arr(num(i), num(0)))
	}
	listed(t, v, want)
}

// TestPathsAreAll: there is one to each value within, and each leads there.
func TestPathsAreAll(t *testing.T) {
	m := newMaker(3)
	for range 2000 {
		v := m.value(5)
		paths, err := place.Paths(v)
		if err != api.OK || len(paths) != value.Size(v)-1 {
			t.Fatalf("Paths of %s: %d, %d", show(v), len(paths), err)
		}
		rebuilt := api.Value{Kind: v.Kind}
		if len(paths) == 0 {
			continue
		}
		for i, path := range paths {
			if i > 0 && len(path) > len(paths[i-1])+1 {
				t.Errorf("Paths of %s: %s isn't ahead of what leads on from it", show(v), show(arr(path...)))
			}
			x, err := place.Get(v, path)
			if err != api.OK {
				t.Errorf("Get of %s at %s: %d", show(v), show(arr(path...)), err)
			}
			if rebuilt, err = place.Set(rebuilt, path, hollow(x)); err != api.OK {
				t.Errorf("Set of %s at %s: %d", show(rebuilt), show(arr(path...)), err)
			}
		}
		if !same(rebuilt, v) {
			t.Errorf("by its paths %s was made of %s", show(rebuilt), show(v))
		}
	}
}

// hollow is a value, of an array or an object one of nothing.
func hollow(v api.Value) api.Value {
	v.Arr, v.Obj = nil, nil
	return v
}
