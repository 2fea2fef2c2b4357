package place_test

import (
	"slices"
	"testing"

	"lorgnette/api"
	"lorgnette/place"
	"lorgnette/value"
)

func set(t *testing.T, v api.Value, path []api.Value, x, want api.Value, wantErr api.Errno) {
	t.Helper()
	got, err := place.Set(v, path, x)
	check(t, got, err, want, wantErr, "Set", v, arr(path...), x)
}

func TestSet(t *testing.T) {
	for _, c := range []struct{ v, path, x, want string }{
		{`null`, `[]`, `5`, `5`}, {`{"a":1}`, `[]`, `null`, `null`}, {`7`, `[]`, `[{"a":"b"}]`, `[{"a":"b"}]`},
		{`{"a":1,"b":2}`, `["a"]`, `3`, `{"a":3,"b":2}`}, {`{"a":1,"b":2}`, `["b"]`, `[3]`, `{"a":1,"b":[3]}`}, {`{"a":1,"b":2}`, `["c"]`, `3`, `{"a":1,"b":2,"c":3}`}, {`{"a":1,"b":2,"c":3}`, `["b"]`, `null`, `{"a":1,"b":null,"c":3}`}, {`{}`, `[""]`, `{}`, `{"":{}}`}, {`null`, `["a"]`, `1`, `{"a":1}`},
		{`[0,1,2]`, `[0]`, `"x"`, `["x",1,2]`}, {`[0,1,2]`, `[1.9]`, `"x"`, `[0,"x",2]`}, {`[0,1,2]`, `[-1]`, `"x"`, `[0,1,"x"]`}, {`[0,1,2]`, `[-3]`, `"x"`, `["x",1,2]`}, {`[0,1,2]`, `[-0.5]`, `"x"`, `[0,1,"x"]`},
		{`[0]`, `[1]`, `"x"`, `[0,"x"]`}, {`[0]`, `[3]`, `"x"`, `[0,null,null,"x"]`}, {`[]`, `[0]`, `null`, `[null]`}, {`null`, `[0]`, `5`, `[5]`}, {`null`, `[2]`, `5`, `[null,null,5]`}, {`[]`, `[2.5]`, `[]`, `[null,null,[]]`},
		{`null`, `["a",1]`, `true`, `{"a":[null,true]}`}, {`null`, `[1,"a",0]`, `7`, `[null,{"a":[7]}]`}, {`{"a":null}`, `["a","b",0]`, `7`, `{"a":{"b":[7]}}`},
		{`{"x":0,"a":[{"b":1,"c":2},3],"y":4}`, `["a",0,"b"]`, `[9]`, `{"x":0,"a":[{"b":[9],"c":2},3],"y":4}`}, {`[[1,2],[3,4],[5,6]]`, `[1,-1]`, `0`, `[[1,2],[3,0],[5,6]]`},
	} {
		set(t, of(c.v), of(c.path).Arr, of(c.x), of(c.want), api.OK)
	}
}

func TestSetSlices(t *testing.T) {
	for _, c := range []struct{ v, path, x, want string }{
		{`[0,1,2]`, `[{"start":0,"end":2}]`, `[9]`, `[9,2]`}, {`[0,1,2]`, `[{"end":2,"start":1}]`, `[7,8,9]`, `[0,7,8,9,2]`}, {`[0,1,2]`, `[{"start":1,"end":1}]`, `[7,[8]]`, `[0,7,[8],1,2]`}, {`[0,1,2]`, `[{"start":2,"end":1}]`, `[7]`, `[0,1,7,2]`}, {`[0,1,2]`, `[{"start":9,"end":null}]`, `[7]`, `[0,1,2,7]`},
		{`[0,1,2]`, `[{"start":null,"end":null}]`, `[]`, `[]`}, {`[0,1,2]`, `[{"start":-1,"end":null}]`, `[]`, `[0,1]`}, {`[0,1,2]`, `[{"start":0.5,"end":0.5}]`, `["x"]`, `["x",1,2]`}, {`[]`, `[{"start":1,"end":2}]`, `[[]]`, `[[]]`},
		{`null`, `[{"start":0,"end":1}]`, `[1,2]`, `[1,2]`}, {`null`, `[{"start":5,"end":7}]`, `[]`, `[]`}, {`null`, `[{"start":-5,"end":null},2]`, `1`, `[null,null,1]`}, {`null`, `["a",{"start":5,"end":7}]`, `[1]`, `{"a":[1]}`},
		{`[0,1,2,3]`, `[{"start":1,"end":3},0]`, `"x"`, `[0,"x",2,3]`}, {`[0,1,2,3]`, `[{"start":1,"end":3},-1]`, `"x"`, `[0,1,"x",3]`}, {`[0,1,2,3]`, `[{"start":1,"end":3},3]`, `"x"`, `[0,1,2,null,"x",3]`}, {`[0,1,2,3]`, `[{"start":1,"end":3},{"start":1,"end":1}]`, `["x","y"]`, `[0,1,"x","y",2,3]`},
		{`[0,1,2,3]`, `[{"start":1,"end":4},{"start":1,"end":3},{"start":1,"end":2}]`, `[]`, `[0,1,2]`}, {`[0,{"a":[1,2]},3]`, `[{"start":1,"end":2},0,"a",{"start":0,"end":1}]`, `[7,7]`, `[0,{"a":[7,7,2]},3]`},
	} {
		set(t, of(c.v), of(c.path).Arr, of(c.x), of(c.want), api.OK)
	}
	v := items(4)
	for _, b := range bounds {
		for _, k := range slicesOf(b.start, b.end) {
			set(t, v, []api.Value{k}, of(`["x","y"]`), arr(slices.Concat(v.Arr[:b.from], of(`["x","y"]`).Arr, v.Arr[b.to:])...), api.OK)
		}
	}
}

func TestSetErrors(t *testing.T) {
	for _, c := range []struct {
		v, path, x string
		want       api.Errno
	}{
		{`[0,1]`, `[-3]`, `1`, api.ErrRange}, {`[]`, `[-1]`, `1`, api.ErrRange}, {`null`, `[-1]`, `1`, api.ErrRange}, {`[]`, `[-1e-10000]`, `1`, api.ErrRange}, {`[0]`, `[1e17]`, `1`, api.ErrRange}, {`null`, `[1e17]`, `1`, api.ErrRange}, {`null`, `[-1e17]`, `1`, api.ErrRange}, {`null`, `[9007199254740993]`, `1`, api.ErrRange},
		{`null`, `[9007199254740992]`, `1`, api.ErrSize}, {`[]`, `[65536]`, `1`, api.ErrSize}, {`[0]`, `[65536.5]`, `1`, api.ErrSize}, {`null`, `["a",65536]`, `1`, api.ErrSize},
		{`1`, `[0]`, `1`, api.ErrKind}, {`true`, `["a"]`, `1`, api.ErrKind}, {`"a"`, `[0]`, `1`, api.ErrKind}, {`"a"`, `["a"]`, `1`, api.ErrKind}, {`[]`, `["a"]`, `1`, api.ErrKind}, {`{}`, `[0]`, `1`, api.ErrKind}, {`{}`, `[{"start":0,"end":1}]`, `[]`, api.ErrKind}, {`5`, `[{"start":0,"end":1}]`, `[]`, api.ErrKind}, {`{"a":1}`, `["a","b"]`, `1`, api.ErrKind},
		{`"abc"`, `[{"start":0,"end":1}]`, `"x"`, api.ErrKind}, {`"abc"`, `[{"start":0,"end":1}]`, `[]`, api.ErrKind}, {`["abc"]`, `[0,{"start":0,"end":1}]`, `["x"]`, api.ErrKind}, {`"abc"`, `[{"start":0,"end":1},{"start":0,"end":1}]`, `[]`, api.ErrKind}, {`"abc"`, `[{"start":0,"end":1},0]`, `1`, api.ErrKind},
		{`[0,1]`, `[{"start":0,"end":1}]`, `null`, api.ErrKind}, {`[0,1]`, `[{"start":0,"end":1}]`, `"x"`, api.ErrKind}, {`[0,1]`, `[{"start":0,"end":1}]`, `{}`, api.ErrKind}, {`null`, `[{"start":0,"end":1}]`, `5`, api.ErrKind}, {`null`, `[{"start":0,"end":1},"a"]`, `[]`, api.ErrKind},
		{`[0,1]`, `[{"start":1e17,"end":null}]`, `[]`, api.ErrRange}, {`[0,1]`, `[{"start":1e17,"end":null}]`, `5`, api.ErrRange}, {`null`, `[{"start":1e17,"end":null}]`, `[]`, api.ErrRange}, {`null`, `[{"start":null,"end":-1e17}]`, `[5]`, api.ErrRange}, {`"abc"`, `[{"start":1e17,"end":null}]`, `[]`, api.ErrRange},
		{`null`, `[{"start":1e17,"end":null}]`, `5`, api.ErrKind}, // what is no array is put nowhere, so the places aren't asked for
	} {
		set(t, of(c.v), of(c.path).Arr, of(c.x), null, c.want)
	}
	for _, v := range oneOfEach() {
		for _, k := range noSteps {
			set(t, v, []api.Value{of(k)}, arr(), null, api.ErrKind)
			set(t, null, []api.Value{text("a"), of(k)}, v, null, api.ErrKind)
		}
	}
}

// TestSetFirstError: all steps are gone ahead of what is put; that is put from the last step on back.
func TestSetFirstError(t *testing.T) {
	for _, c := range []struct {
		v, path, x string
		want       api.Errno
	}{
		{`[]`, `[-1,true]`, `1`, api.ErrKind}, {`null`, `[65536,true]`, `1`, api.ErrKind}, {`null`, `[65536,-1]`, `1`, api.ErrRange}, {`null`, `[-1,65536]`, `1`, api.ErrSize}, {`null`, `[-1,{"start":0,"end":1},"a"]`, `1`, api.ErrKind}, {`null`, `[{"start":0,"end":1},-1]`, `1`, api.ErrRange}, {`null`, `[{"start":0,"end":1},65536]`, `1`, api.ErrSize},
		{`[[]]`, `[1e17,"a"]`, `1`, api.ErrRange}, {`[[]]`, `[0,"a",1e17]`, `1`, api.ErrKind}, {`{"a":[]}`, `["a",-1,{"start":1e17,"end":1}]`, `[]`, api.ErrRange}, {`{"a":[5]}`, `["a",0,-1]`, `1`, api.ErrKind},
	} {
		set(t, of(c.v), of(c.path).Arr, of(c.x), null, c.want)
	}
}

// TestSetDepth goes to the limit, and a step beyond it.
func TestSetDepth(t *testing.T) {
	zero, k, all := num(0), text("k"), part(null, null)
	for levels := range 204 {
		for _, steps := range []int{1, 2, 77, 199, 200, 201, 400} {
			x := within(null, min(max(levels-steps, 0), 200))
			array, object, wantErr := within(x, steps), underKeys(x, steps), api.OK
			if value.Depth(array) > 200 {
				array, object, wantErr = null, null, api.ErrDepth
			}
			set(t, null, slices.Repeat([]api.Value{zero}, steps), x, array, wantErr)
			set(t, null, slices.Repeat([]api.Value{k}, steps), x, object, wantErr)
		}
	}
	deep, deeper := within(null, 199), within(null, 200)
	for _, v := range []api.Value{null, arr(), arr(deep), arr(null, deep)} {
		set(t, v, []api.Value{num(3)}, deeper, null, api.ErrDepth)
		set(t, v, []api.Value{all}, deeper, deeper, api.OK) // its items come no deeper than they were
		set(t, v, []api.Value{all, all, num(0)}, deeper, null, api.ErrDepth)
	}
	set(t, null, []api.Value{zero, all, all}, deep, arr(deep), api.OK)
	set(t, null, []api.Value{k, all}, deeper, null, api.ErrDepth)
	set(t, arr(null, deep), []api.Value{zero}, deep, arr(deep, deep), api.OK)
	set(t, obj(field("a", deep)), []api.Value{text("b")}, deep, obj(field("a", deep), field("b", deep)), api.OK)
	set(t, obj(field("a", deep)), []api.Value{text("a")}, deeper, null, api.ErrDepth)
	set(t, deeper, []api.Value{zero}, num(1), arr(num(1)), api.OK)
	set(t, deeper, slices.Repeat([]api.Value{zero}, 200), num(1), within(num(1), 200), api.OK)
	set(t, deeper, slices.Repeat([]api.Value{zero}, 200), arr(), null, api.ErrDepth)
	set(t, deeper, slices.Repeat([]api.Value{zero}, 201), num(1), null, api.ErrDepth)
	set(t, null, append(slices.Repeat([]api.Value{zero}, 201), of(`true`)), num(1), null, api.ErrKind)
	set(t, null, []api.Value{num(-1)}, deeper, null, api.ErrRange)
	set(t, null, []api.Value{num(65536)}, deeper, null, api.ErrSize)
	set(t, null, []api.Value{num(-1), zero}, deeper, null, api.ErrDepth)
}

// TestSetSize goes to the last index at which may be set, and beyond it, also where an item stands there.
func TestSetSize(t *testing.T) {
	want := arr(slices.Repeat([]api.Value{null}, 65536)...)
	want.Arr[65535] = num(5)
	set(t, null, []api.Value{num(65535)}, num(5), want, api.OK)
	set(t, arr(), []api.Value{of(`65535.5`)}, num(5), want, api.OK)

	v := items(65600)
	want = twin(v)
	want.Arr[65535] = text("x")
	set(t, v, []api.Value{num(65535)}, text("x"), want, api.OK)
	set(t, v, []api.Value{num(-65)}, text("x"), want, api.OK)
	for _, n := range []int{65536, 65599, 65600, -1, -64} {
		set(t, v, []api.Value{num(n)}, num(5), null, api.ErrSize)
	}
	want = twin(v)
	want.Arr[65590] = text("x")
	set(t, v, []api.Value{part(num(65590), null), num(0)}, text("x"), want, api.OK) // an index is one of the slice's
	set(t, v, []api.Value{part(num(65590), num(65591))}, of(`["x"]`), want, api.OK)
}
