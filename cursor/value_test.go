package cursor_test

import (
	"encoding/json"
	"math/rand"
	"slices"
	"strings"
	"testing"

	"lorgnette/api"
	"lorgnette/dec"
)

func number(n int) api.Value {
	return api.Value{Kind: api.Number, Num: dec.Of(n)}
}

func TestValuesByHand(t *testing.T) {
	for b, want := range map[string]api.Value{
		" null ":            {},
		"false":             {Kind: api.False},
		"true":              {Kind: api.True},
		"-0":                number(0),
		"12.0e1":            number(120),
		"-1.5":              {Kind: api.Number, Num: api.Dec{Neg: true, Limbs: []uint32{15}, Exp: -1}},
		`"\ud834\udd1e\n"`:  {Kind: api.Text, Str: "𝄞\n"},
		`"\ud834"`:          {Kind: api.Text, Str: "\ufffd"},
		`"[1e99999]"`:       {Kind: api.Text, Str: "[1e99999]"},
		"[]":                {Kind: api.Array},
		"{ }":               {Kind: api.Object},
		`[1,[2 , "x"],3]`:   {Kind: api.Array, Arr: []api.Value{number(1), {Kind: api.Array, Arr: []api.Value{number(2), {Kind: api.Text, Str: "x"}}}, number(3)}},
		`{"a":[1,2],"a":3}`: {Kind: api.Object, Obj: []api.Field{{Key: "a", Val: number(3)}}},
		// The key stands where it stood first, what it has is what it has last.
		`{"b":1,"a":{"a":2},"\u0062":4,"c":true,"b":[]}`: {Kind: api.Object, Obj: []api.Field{{Key: "b", Val: api.Value{Kind: api.Array}}, {Key: "a", Val: api.Value{Kind: api.Object, Obj: []api.Field{{Key: "a", Val: number(2)}}}}, {Key: "c", Val: api.Value{Kind: api.True}}}},
	} {
		d := docOf(t, b)
		if v, err := d.Value(d.Root()); !same(v, want) || err != api.OK {
			t.Errorf("Value of %s: %v, %d, not %v", b, v, err, want)
		}
	}
}

func TestOutOfRange(t *testing.T) {
	long := "0." + strings.Repeat("1", 400)
	for number, want := range map[string]api.Errno{
		"1e10000": api.OK, "-9.9e10000": api.OK, "1e-10000": api.OK, long: api.OK, "0e99999": api.OK, "0." + strings.Repeat("0", 998): api.OK,
		"1e10001": api.ErrRange, "-1e10001": api.ErrRange, "10e10000": api.ErrRange, "1e-10001": api.ErrRange, "1e99999999999999999999": api.ErrRange, long + "1": api.ErrRange, "0." + strings.Repeat("0", 999): api.ErrRange,
	} {
		for _, b := range []string{number, " " + number + "\n", "[" + number + "]", "[1,[[" + number + "]],2]", `{"a":` + number + `}`, `{"a":1,"b":[{"c":` + number + ` }],"d":2}`,
			// Also where a later entry has the key.
			`{"a":` + number + `,"a":1}`, `{"a":[` + number + `],"b":0,"\u0061":null}`, `[{"a":{"b":` + number + `},"a":1}]`} {
			d := docOf(t, b)
			v, err := d.Value(d.Root())
			if err != want || want != api.OK && !same(v, api.Value{}) {
				t.Errorf("Value of %s: %v, %d, not %d", name(b), v, err, want)
			}
			if _, err := d.Bytes(d.Root()); err != api.OK {
				t.Errorf("%s is a part", name(b))
			}
		}
	}
	d := docOf(t, `["[1e10001]", 1e10001, 2]`)
	for s, want := range map[api.Span]api.Errno{{From: 1, To: 12}: api.OK, {From: 2, To: 11}: api.ErrRange, {From: 14, To: 21}: api.ErrRange, {From: 14, To: 20}: api.OK, {From: 23, To: 24}: api.OK, d.Root(): api.ErrRange} {
		if _, err := d.Value(s); err != want {
			t.Errorf("Value(%v): %d, not %d", s, err, want)
		}
	}
}

// TestValuesAreTheLibrarys holds whole values against the library's.
func TestValuesAreTheLibrarys(t *testing.T) {
	chance := rand.New(rand.NewSource(101))
	for range 3000 {
		b := anyText(chance, 1+chance.Intn(5))
		d := docOf(t, b)
		v, err := d.Value(d.Root())
		if err != api.OK {
			if !strings.Contains(b, "1e10001") {
				t.Errorf("%s: %d", name(b), err)
			}
			continue
		}
		r := json.NewDecoder(strings.NewReader(b))
		r.UseNumber()
		var want any
		if err := r.Decode(&want); err != nil || !isAny(v, want) {
			t.Errorf("%s: %v, not %v, %v", name(b), v, want, err)
		}
	}
}

// isAny tells whether a value is one of the library's.
func isAny(v api.Value, want any) bool {
	switch x := want.(type) {
	case nil:
		return same(v, api.Value{})
	case bool:
		kind := api.False
		if x {
			kind = api.True
		}
		return same(v, api.Value{Kind: kind})
	case json.Number:
		n, err := dec.Parse(string(x))
		return err == api.OK && same(v, api.Value{Kind: api.Number, Num: n})
	case string:
		return same(v, api.Value{Kind: api.Text, Str: x})
	case []any:
		return v.Kind == api.Array && v.Obj == nil && slices.EqualFunc(v.Arr, x, isAny)
	case map[string]any:
		for _, f := range v.Obj {
			if has, ok := x[f.Key]; !ok || !isAny(f.Val, has) {
				return false
			}
		}
		return v.Kind == api.Object && v.Arr == nil && len(v.Obj) == len(x)
	}
	return false
}
