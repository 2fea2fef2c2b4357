package place_test

import (
	"strings"
	"testing"

	"lorgnette/api"
	"lorgnette/place"
)

// stepped goes a step, by Step, and by Get.
func stepped(t *testing.T, v, k, want api.Value, wantErr api.Errno) {
	t.Helper()
	got, err := place.Step(v, k)
	check(t, got, err, want, wantErr, "Step", v, k)
	got, err = place.Get(v, []api.Value{k})
	check(t, got, err, want, wantErr, "Get", v, arr(k))
}

func TestKeys(t *testing.T) {
	v := of(`{"a":1,"":[2],"é":null,"o":{"a":3}}`)
	for key, want := range map[string]string{"a": `1`, "": `[2]`, "é": `null`, "o": `{"a":3}`, "b": `null`, "A": `null`, "aa": `null`, "e\u0301": `null`} {
		stepped(t, v, text(key), of(want), api.OK)
	}
	stepped(t, obj(), text("a"), null, api.OK)
	stepped(t, null, text("a"), null, api.OK)
}

func TestIndexes(t *testing.T) {
	for n, want := range map[string]string{
		"0": "0", "1": "1", "3": "3", "4": "null", "5": "null", "-1": "3", "-4": "0", "-5": "null", "-6": "null",
		"0.5": "0", "0.999": "0", "1.9": "1", "3.9": "3", "4.1": "null", "-0.5": "3", "-1.5": "2", "-3.5": "0", "-4.5": "null",
		"1e-10000": "0", "-1e-10000": "3", "1.99999999999999999999999999999999999999": "1", "3e0": "3",
		"9007199254740992": "null", "-9007199254740992": "null", "9007199254740992.9": "null",
	} {
		stepped(t, items(4), of(n), of(want), api.OK)
	}
	for _, n := range []string{"9007199254740993", "-9007199254740993", "-9007199254740992.1", "1e17", "-1e17", "1e10000", "-9.9e10000", strings.Repeat("9", 400), strings.Repeat("9", 399) + ".9"} {
		stepped(t, items(4), of(n), null, api.ErrRange)
		stepped(t, arr(), of(n), null, api.ErrRange)
		stepped(t, null, of(n), null, api.OK)
	}
	stepped(t, arr(), num(0), null, api.OK)
	stepped(t, arr(), num(-1), null, api.OK)
	stepped(t, of(`[null,[1]]`), num(1), of(`[1]`), api.OK)
	stepped(t, null, num(0), null, api.OK)
	stepped(t, within(null, 200), num(0), within(null, 199), api.OK)
}

// bounds are starts and ends, and how many of four stand ahead of the slice, and of its end.
var bounds = []struct {
	start, end string
	from, to   int
}{
	{"0", "4", 0, 4}, {"1", "3", 1, 3}, {"1", "-1", 1, 3}, {"-3", "-1", 1, 3}, {"null", "2", 0, 2}, {"2", "null", 2, 4}, {"null", "null", 0, 4}, {"-1", "null", 3, 4}, {"null", "-1", 0, 3},
	{"3", "1", 3, 3}, {"-1", "-3", 3, 3}, {"0", "0", 0, 0}, {"4", "4", 4, 4}, {"4", "0", 4, 4}, {"9", "12", 4, 4}, {"9", "1", 4, 4}, {"2", "9", 2, 4}, {"-9", "2", 0, 2}, {"-9", "-8", 0, 0}, {"1", "-9", 1, 1}, {"-4", "-4", 0, 0}, {"-5", "-3", 0, 1},
	{"1.2", "2.2", 1, 3}, {"1.9", "2", 1, 2}, {"0.9", "0.1", 0, 1}, {"-0.5", "null", 3, 4}, {"null", "-0.5", 0, 0}, {"-1.5", "-1.5", 2, 3}, {"null", "-1.5", 0, 3}, {"-4.5", "1e-10000", 0, 1}, {"-1e-10000", "3.00000000000000000000000000000000000001", 3, 4},
	{"9007199254740992", "null", 4, 4}, {"9007199254740992.5", "null", 4, 4}, {"-9007199254740992", "1", 0, 1}, {"3", "9007199254740992", 3, 4}, {"0", "-9007199254740992", 0, 0}, {"0", "-9007199254740992.5", 0, 0},
}

// farBounds have a start or an end that is out of range.
var farBounds = [][2]string{
	{"9007199254740993", "null"}, {"-9007199254740993", "0"}, {"-9007199254740992.5", "0"}, {"1e17", "1"}, {"-1e10000", "null"},
	{"null", "9007199254740993"}, {"0", "9007199254740992.5"}, {"0", "-9007199254740993"}, {"1", "1e17"}, {"null", "-1e10000"}, {"1e99", "-1e99"},
}

// slicesOf are the slices of a start and an end, whose keys stand in either order.
func slicesOf(start, end string) []api.Value {
	return []api.Value{of(`{"start":` + start + `,"end":` + end + `}`), of(`{"end":` + end + `,"start":` + start + `}`)}
}

func TestSlices(t *testing.T) {
	v := of(`[0,[1],{"a":2},"c"]`)
	for _, b := range bounds {
		for _, k := range slicesOf(b.start, b.end) {
			stepped(t, v, k, arr(v.Arr[b.from:b.to]...), api.OK)
			stepped(t, null, k, null, api.OK)
			for _, points := range [][]rune{[]rune("abcd"), []rune("äb𝄞\x00"), []rune("\ufffd\u0301\U0010ffffé")} {
				stepped(t, text(string(points)), k, text(string(points[b.from:b.to])), api.OK)
			}
			for _, empty := range []api.Value{arr(), text("")} {
				stepped(t, empty, k, empty, api.OK)
			}
		}
	}
	for _, b := range farBounds {
		for _, k := range slicesOf(b[0], b[1]) {
			stepped(t, v, k, null, api.ErrRange)
			stepped(t, arr(), k, null, api.ErrRange)
			stepped(t, text("abc"), k, null, api.ErrRange)
			stepped(t, text(""), k, null, api.ErrRange)
			stepped(t, null, k, null, api.OK)
		}
	}
	stepped(t, within(null, 200), part(num(0), null), within(null, 200), api.OK)
}

// noSteps are values that are no steps.
var noSteps = []string{
	`null`, `false`, `true`, `[]`, `[0]`, `["a"]`, `{}`, `{"a":1}`, `{"start":0}`, `{"end":0}`, `{"start":0,"end":1,"x":2}`, `{"start":0,"x":1}`, `{"end":0,"":1}`, `{"Start":0,"end":1}`, `{"start":0,"End":1}`,
	`{"start":"0","end":1}`, `{"start":0,"end":"1"}`, `{"start":true,"end":1}`, `{"start":0,"end":false}`, `{"start":[],"end":1}`, `{"start":0,"end":{}}`, `{"start":{"start":0,"end":1},"end":null}`,
}

// oneOfEach are values of each kind.
func oneOfEach() []api.Value {
	return []api.Value{null, of(`false`), of(`true`), num(0), num(7), text(""), text("a"), arr(), of(`[1,2]`), obj(), of(`{"a":1,"start":2,"end":3}`), within(null, 200)}
}

// TestKinds has each kind of value and each kind of step.
func TestKinds(t *testing.T) {
	far := of(`1e17`)
	for _, v := range oneOfEach() {
		for _, k := range noSteps {
			stepped(t, v, of(k), null, api.ErrKind)
		}
		if v.Kind != api.Object && v.Kind != api.Null {
			stepped(t, v, text("a"), null, api.ErrKind)
			stepped(t, v, text(""), null, api.ErrKind)
		}
		if v.Kind != api.Array && v.Kind != api.Null {
			stepped(t, v, num(0), null, api.ErrKind)
			stepped(t, v, far, null, api.ErrKind)
		}
		if v.Kind != api.Array && v.Kind != api.Text && v.Kind != api.Null {
			stepped(t, v, part(num(0), null), null, api.ErrKind)
			stepped(t, v, part(far, null), null, api.ErrKind)
		}
	}
}

func TestGet(t *testing.T) {
	for _, c := range []struct{ v, path, want string }{
		{`5`, `[]`, `5`}, {`null`, `[]`, `null`}, {`{"a":[1,2]}`, `[]`, `{"a":[1,2]}`},
		{`{"a":[1,2]}`, `["a",-1]`, `2`}, {`{"a":[1,2]}`, `["a",2]`, `null`}, {`{"a":[1,2]}`, `["b",0,"x"]`, `null`}, {`{"a":[1,2]}`, `["a",2,"b",{"start":1e99,"end":null},1e99]`, `null`},
		{`[[0,1],[2,[3,"äbc"]]]`, `[1,1,1,{"start":0,"end":2}]`, `"äb"`}, {`[[0,1],[2,[3,"äbc"]]]`, `[-1,-1,-1,{"start":1,"end":null},{"start":1,"end":null}]`, `"c"`},
		{`[0,1,2,3,4]`, `[{"start":1,"end":-1},{"start":1,"end":null},0]`, `2`}, {`[0,1,2,3,4]`, `[{"start":1,"end":-1},-1]`, `3`}, {`[0,1,2,3,4]`, `[{"start":1,"end":3},2]`, `null`}, {`[0,1,2,3,4]`, `[{"start":1,"end":3},-3]`, `null`},
		{`[0,[1,2],3]`, `[{"start":1,"end":null},0,{"start":1,"end":2}]`, `[2]`}, {`[[1],[2]]`, `[{"start":2,"end":9},0,0]`, `null`},
	} {
		got, err := place.Get(of(c.v), of(c.path).Arr)
		check(t, got, err, of(c.want), api.OK, "Get", of(c.v), of(c.path))
	}
}

// TestGetFirstError: the first step that goes wrong tells the error, and one that isn't reached is no matter, but where it may not be.
func TestGetFirstError(t *testing.T) {
	for _, c := range []struct {
		v, path string
		want    api.Errno
	}{
		{`{"a":[1]}`, `["a","b"]`, api.ErrKind}, {`{"a":[1]}`, `["a",1e17]`, api.ErrRange}, {`{"a":[1]}`, `["a",1e17,null]`, api.ErrRange}, {`{"a":[1]}`, `["a",0,1e17]`, api.ErrKind}, {`{"a":[1]}`, `[true,"a",1e17]`, api.ErrKind},
		{`{"a":[1]}`, `["a","x",1e17]`, api.ErrKind}, {`["abc"]`, `[0,{"start":null,"end":1e17},0]`, api.ErrRange}, {`["abc"]`, `[0,{"start":0,"end":1},0]`, api.ErrKind}, {`["abc"]`, `[0,{"start":0,"end":1},{"start":-1e17,"end":1}]`, api.ErrRange},
		{`null`, `["a",0,{"start":0,"end":1},[]]`, api.ErrKind}, {`{}`, `["a",0,{}]`, api.ErrKind}, {`[]`, `[0,"a",{"start":0}]`, api.ErrKind}, {`[[1]]`, `[{"start":0,"end":1},"a"]`, api.ErrKind},
	} {
		got, err := place.Get(of(c.v), of(c.path).Arr)
		check(t, got, err, null, c.want, "Get", of(c.v), of(c.path))
	}
}
