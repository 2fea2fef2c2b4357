package place_test

import (
	"slices"
	"testing"

	"lorgnette/api"
	"lorgnette/place"
)

func deleted(t *testing.T, v api.Value, paths [][]api.Value, want api.Value, wantErr api.Errno) {
	t.Helper()
	got, err := place.Delete(v, paths)
	check(t, got, err, want, wantErr, "Delete", v, asArray(paths))
}

func TestDelete(t *testing.T) {
	for _, c := range []struct{ v, paths, want string }{
		{`{"a":1}`, `[]`, `{"a":1}`}, {`5`, `[]`, `5`}, {`null`, `[]`, `null`}, {`5`, `[[]]`, `null`}, {`{"a":1}`, `[[],[]]`, `null`}, {`{"a":1}`, `[[],["a"]]`, `null`},
		{`{"a":1,"b":2,"c":3}`, `[["b"]]`, `{"a":1,"c":3}`}, {`{"a":1,"b":2,"c":3}`, `[["a"],["c"],["a"],["x"]]`, `{"b":2}`}, {`{"a":1}`, `[["a"]]`, `{}`}, {`{"a":1}`, `[["b"]]`, `{"a":1}`},
		{`[0,1,2]`, `[[0]]`, `[1,2]`}, {`[0,1,2]`, `[[1]]`, `[0,2]`}, {`[0,1,2]`, `[[2]]`, `[0,1]`}, {`[0,1,2]`, `[[-1]]`, `[0,1]`}, {`[0,1,2]`, `[[-3]]`, `[1,2]`}, {`[0,1,2]`, `[[1.7]]`, `[0,2]`}, {`[0,1,2]`, `[[-0.1]]`, `[0,1]`}, {`[0,1,2]`, `[[3]]`, `[0,1,2]`}, {`[0,1,2]`, `[[-4]]`, `[0,1,2]`}, {`[]`, `[[0],[-1]]`, `[]`}, {`[0]`, `[[9007199254740992]]`, `[0]`},
		{`[0,1,2]`, `[[0],[2]]`, `[1]`}, {`[0,1,2]`, `[[2],[0]]`, `[1]`}, {`[0,1,2]`, `[[0],[2],[0],[2]]`, `[1]`}, {`[0,1,2,3]`, `[[0],[1],[2],[3]]`, `[]`},
		{`[0,1,2,3]`, `[[{"start":1,"end":3}]]`, `[0,3]`}, {`[0,1,2,3]`, `[[{"start":null,"end":-1}]]`, `[3]`}, {`[0,1,2,3]`, `[[{"start":3,"end":1}]]`, `[0,1,2,3]`}, {`[0,1,2,3]`, `[[{"start":null,"end":null}]]`, `[]`}, {`[0,1,2,3]`, `[[{"start":0.5,"end":0.5}]]`, `[1,2,3]`}, {`[0,1,2,3]`, `[[{"start":1,"end":2}],[{"end":2,"start":1}]]`, `[0,2,3]`},
		{`{"a":[1,{"b":2,"c":3}]}`, `[["a",1,"b"]]`, `{"a":[1,{"c":3}]}`}, {`{"a":[1,{"b":2}]}`, `[["a",1,"b"],["a",0]]`, `{"a":[{}]}`}, {`[[0,1,2]]`, `[[0,{"start":1,"end":null}]]`, `[[0]]`}, {`[[1],[2],[3]]`, `[[0,0],[2,0]]`, `[[],[2],[]]`},
		{`[0,1,2,3,4]`, `[[{"start":1,"end":4},0]]`, `[0,2,3,4]`}, {`[0,1,2,3,4]`, `[[{"start":1,"end":4},-1]]`, `[0,1,2,4]`}, {`[0,1,2,3,4]`, `[[{"start":1,"end":4},3]]`, `[0,1,2,3,4]`}, {`[0,1,2,3,4]`, `[[{"start":1,"end":4},{"start":1,"end":3}]]`, `[0,1,4]`}, {`[0,1,2,3,4]`, `[[{"start":1,"end":null},{"start":1,"end":null},{"start":null,"end":-1}]]`, `[0,1,4]`}, {`[0,{"a":1},2]`, `[[{"start":1,"end":null},0,"a"]]`, `[0,{},2]`},
		{`null`, `[["a"]]`, `null`}, {`null`, `[[0],["a",1],[{"start":1e99,"end":null}],[1e99]]`, `null`}, {`{"a":null}`, `[["a","b"],["a",0]]`, `{"a":null}`}, {`{"a":null}`, `[["a"]]`, `{}`},
		{`{}`, `[["a",true]]`, `{}`}, {`{"a":[]}`, `[["a",0,true],["b",{},[]]]`, `{"a":[]}`}, {`{"a":{"b":null}}`, `[["a","b",false,1]]`, `{"a":{"b":null}}`}, {`null`, `[["a",true]]`, `null`}, // behind what is Null no step is looked at
	} {
		deleted(t, of(c.v), pathsOf(of(c.paths)), of(c.want), api.OK)
	}
	v := items(4)
	for _, b := range bounds {
		for _, k := range slicesOf(b.start, b.end) {
			deleted(t, v, [][]api.Value{{k}}, arr(slices.Concat(v.Arr[:b.from], v.Arr[b.to:])...), api.OK)
		}
	}
}

// TestDeleteInTurn: the greatest path comes first, and each one leads through what those ahead of it have left.
func TestDeleteInTurn(t *testing.T) {
	for _, c := range []struct{ v, paths, want string }{
		{`[0,1,2]`, `[[-1],[2]]`, `[0]`},                                           // 2, then the last one of those that are left
		{`[0,1,2]`, `[[-1],[-2]]`, `[1]`},                                          // -1, then the first one of the two that are left
		{`[0,1,2,3]`, `[[-4],[-3],[0]]`, `[2,3]`},                                  // 0, then -3, the first one of those that are left; then there is no -4
		{`[0,1,2,3]`, `[[1],[1.5]]`, `[0,3]`},                                      // 1.5 isn't 1
		{`[0,1,2,3]`, `[[1],[1.0],[10e-1]]`, `[0,2,3]`},                            // these are
		{`[0,1,2,3]`, `[[0],[{"start":0,"end":2}]]`, `[3]`},                        // a slice is greater than a number
		{`[0,1,2,3]`, `[[{"start":0,"end":1}],[{"start":1,"end":2}]]`, `[2,3]`},    // by their values, keys being the same: end, then start
		{`[0,1,2,3]`, `[[{"start":0,"end":2}],[{"start":3,"end":null}]]`, `[2,3]`}, // Null is less than 2, and nothing stands at 3 any more
		{`[[0,1],[2]]`, `[[0],[0,0]]`, `[[2]]`},                                    // the longer one first
		{`[[0,1],[2,3]]`, `[[0,0],[0]]`, `[[2,3]]`},                                // and no more what comes behind it
		{`[[0,1],[2,3]]`, `[[1,0],[0],[1]]`, `[]`},                                 // likewise
		{`{"a":[0,1],"b":1}`, `[["a"],["a",0],["b"]]`, `{}`},                       //
		{`[{"a":1,"b":1},{"a":1,"b":1}]`, `[[0,"a"],[-1,"b"],[-2]]`, `[{"a":1}]`},  // -2 is the least of them
		{`[0,1,2,3,4,5]`, `[[0],[1],[2],[-1],[-2]]`, `[4]`},                        //
		{`[0,1,2,3,4,5]`, `[[4],[{"start":4,"end":5}],[{"start":0,"end":1},0],[{"start":0,"end":1}]]`, `[2,3,5]`},
	} {
		paths := pathsOf(of(c.paths))
		deleted(t, of(c.v), paths, of(c.want), api.OK)
		deleted(t, of(c.v), append(paths, paths...), of(c.want), api.OK)
		slices.Reverse(paths)
		deleted(t, of(c.v), paths, of(c.want), api.OK)
	}
}

func TestDeleteErrors(t *testing.T) {
	for _, c := range []struct {
		v, paths string
		want     api.Errno
	}{
		{`5`, `[["a"]]`, api.ErrKind}, {`true`, `[[0]]`, api.ErrKind}, {`"abc"`, `[[0]]`, api.ErrKind}, {`"abc"`, `[[{"start":0,"end":1}]]`, api.ErrKind}, {`"abc"`, `[["a"]]`, api.ErrKind}, {`[]`, `[["a"]]`, api.ErrKind}, {`{}`, `[[0]]`, api.ErrKind}, {`{}`, `[[{"start":0,"end":1}]]`, api.ErrKind},
		{`[0]`, `[[1e17]]`, api.ErrRange}, {`[]`, `[[-9007199254740992.5]]`, api.ErrRange}, {`[0]`, `[[{"start":1e17,"end":null}]]`, api.ErrRange}, {`[0]`, `[[{"start":0,"end":9007199254740992.5}]]`, api.ErrRange}, {`{"a":[0]}`, `[["a",1e17]]`, api.ErrRange}, {`{}`, `[[1e17]]`, api.ErrKind}, {`"abc"`, `[[1e17]]`, api.ErrKind}, {`"abc"`, `[[{"start":1e17,"end":null}]]`, api.ErrKind},
		{`[[0]]`, `[[1e17,0]]`, api.ErrRange}, {`{"a":5}`, `[["a","b"]]`, api.ErrKind}, {`{"a":5}`, `[["a","b","c"]]`, api.ErrKind}, {`{"a":[5]}`, `[["a","b","c"]]`, api.ErrKind}, {`["abc"]`, `[[0,{"start":0,"end":1},0]]`, api.ErrKind}, {`["abc"]`, `[[0,{"start":0,"end":1},{"start":0,"end":1}]]`, api.ErrKind}, {`["abc"]`, `[[0,{"start":0,"end":1},{"start":0,"end":1e17},0]]`, api.ErrRange}, {`["abc"]`, `[[0,{"start":0,"end":1},{"start":0,"end":1e17}]]`, api.ErrKind},
		{`[[],5]`, `[[0,true]]`, api.ErrKind}, {`[[],5]`, `[[true,0]]`, api.ErrKind}, {`null`, `[[true,0]]`, api.ErrKind}, {`[0,"a"]`, `[[1,"x"],[0]]`, api.ErrKind}, {`[0,1]`, `[["a"],[1e17]]`, api.ErrKind}, {`[0,1]`, `[[true],[1e17]]`, api.ErrRange}, {`[0,1]`, `[[],[1e17]]`, api.ErrRange}, {`[{"a":1}]`, `[[0,"a",0],[0,"a"]]`, api.ErrKind},
	} {
		deleted(t, of(c.v), pathsOf(of(c.paths)), null, c.want)
	}
	for _, v := range oneOfEach() {
		for _, k := range noSteps {
			deleted(t, v, [][]api.Value{{of(k)}}, null, api.ErrKind)
			deleted(t, v, [][]api.Value{{}, {of(k)}}, null, api.ErrKind)
			deleted(t, v, [][]api.Value{{of(k), num(0)}}, null, api.ErrKind)
		}
	}
}

// TestDeleteFarBehind: an item beyond the last index at which may be set is taken away, but what it has is not.
func TestDeleteFarBehind(t *testing.T) {
	v := items(65600)
	for _, at := range []int{65500, 65535, 65536, 65599} {
		v.Arr[at] = of(`{"a":[1,2],"b":"c","n":null}`)
	}
	want := twin(v)
	want.Arr = slices.Delete(want.Arr, 65599, 65600)
	deleted(t, v, [][]api.Value{{num(65599)}}, want, api.OK)
	deleted(t, v, [][]api.Value{{num(-1)}}, want, api.OK)
	deleted(t, v, [][]api.Value{{part(num(65599), null)}}, want, api.OK)

	want = twin(v)
	want.Arr[65535] = of(`{"a":[2],"b":"c","n":null}`)
	deleted(t, v, [][]api.Value{{num(65535), text("a"), num(0)}}, want, api.OK)
	want = twin(v)
	want.Arr[65599] = of(`{"a":[1,2],"n":null}`)
	deleted(t, v, [][]api.Value{{part(num(65590), null), num(-1), text("b")}}, want, api.OK) // an index is one of the slice's

	for _, n := range []api.Value{num(65536), num(65599), num(-1), of(`65536.5`)} {
		for _, rest := range []string{`["a"]`, `["x"]`, `["a",0]`, `["a",5,true]`, `["n","x"]`, `["n"]`} {
			deleted(t, v, [][]api.Value{append([]api.Value{n}, of(rest).Arr...)}, null, api.ErrSize)
		}
		for rest, wantErr := range map[string]api.Errno{`[0]`: api.ErrKind, `["a",1e17]`: api.ErrRange, `["a",1e17,0]`: api.ErrRange, `["b",0,0]`: api.ErrKind, `["a",true]`: api.ErrKind} {
			deleted(t, v, [][]api.Value{append([]api.Value{n}, of(rest).Arr...)}, null, wantErr)
		}
	}
	deleted(t, v, [][]api.Value{{num(65600), text("a")}, {num(-65601), text("a")}}, v, api.OK)
	deleted(t, v, [][]api.Value{{num(65598), text("a")}}, null, api.ErrKind)
}

// TestDeleteMany takes many places away, which a clone for each would make long.
func TestDeleteMany(t *testing.T) {
	const count = 30000
	v, want, fewer := items(count), arr(), arr()
	var paths, keys [][]api.Value
	for i := range count {
		v.Arr[i] = obj(field("k", num(i)), field("a", null))
		keys = append(keys, []api.Value{num(i), text("k")})
		want.Arr = append(want.Arr, of(`{"a":null}`))
		if i%3 == 0 {
			paths = append(paths, []api.Value{num(i)}, []api.Value{num(i)})
		} else {
			fewer.Arr = append(fewer.Arr, v.Arr[i])
		}
	}
	deleted(t, v, keys, want, api.OK)
	deleted(t, v, paths, fewer, api.OK)
}
