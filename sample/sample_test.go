package sample_test

import (
	"strings"
	"testing"

	"lorgnette/api"
	"lorgnette/sample"
)

const some = `{"b":[1,"é",{"y":null,"x":-2.5}],"a":{"":[]},"c":true}`

func TestSame(t *testing.T) {
	v := sample.Of(some)
	if !sample.Same(v, sample.Of(some)) || !sample.SameAll(v.Obj[0].Val.Arr, sample.Of(some).Obj[0].Val.Arr) {
		t.Error("not the same:", sample.Show(v))
	}
	if !sample.Same(api.Value{}, api.Value{Arr: []api.Value{}, Obj: []api.Field{}, Num: api.Dec{Limbs: []uint32{}}}) {
		t.Error("nil and empty aren't the same")
	}
	for _, other := range []string{"null", `{"b":[1,"é",{"y":null,"x":-2.5}],"a":{"":[]}}`, `{"b":[1,"é",{"y":null,"x":-2.25}],"a":{"":[]},"c":true}`, `{"b":[1,"é",{"x":-2.5,"y":null}],"a":{"":[]},"c":true}`, `{"b":[1,"e",{"y":null,"x":-2.5}],"a":{"":[]},"c":true}`, `{"b":[1,"é",{"y":null,"x":-2.5}],"a":{"":{}},"c":true}`, `{"b":[1,"é",{"y":null,"x":2.5}],"a":{"":[]},"c":true}`, `{"b":[1,"é",{"y":null,"x":-25}],"a":{"":[]},"c":true}`} {
		if sample.Same(v, sample.Of(other)) {
			t.Error("the same:", other)
		}
	}
}

func TestTwin(t *testing.T) {
	v := sample.Of(some)
	twin, twins := sample.Twin(v), sample.Twins([]api.Value{v, v})
	sample.Spoil(v)
	if want := sample.Of(some); sample.Same(v, want) || !sample.Same(twin, want) || !sample.SameAll(twins, []api.Value{want, want}) {
		t.Error("spoilt:", sample.ShowAll(append(twins, v, twin)))
	}
	sample.Spoil(twins[0])
	if !sample.Same(twins[1], sample.Of(some)) {
		t.Error("twins share something")
	}
}

func TestInOrder(t *testing.T) {
	v, want := sample.Of(some), sample.Of(`{"a":{"":[]},"b":[1,"é",{"x":-2.5,"y":null}],"c":true}`)
	if got := sample.InOrder(v); !sample.Same(got, want) || !sample.Same(v, sample.Of(some)) {
		t.Error("in order:", sample.Show(got))
	}
}

func TestShow(t *testing.T) {
	for _, s := range []string{some, "null", "false", "[]", `[{},1e30,"\n"]`} {
		if got := sample.Show(sample.Of(s)); got != s {
			t.Errorf("%s is shown as %s", s, got)
		}
	}
	for _, v := range sample.WrongWithin() {
		if got := sample.Show(v); got == "" || len(got) > 400 {
			t.Errorf("shown: %s", got)
		}
	}
	if got := sample.Show(api.Value{Kind: api.True, Str: "x"}); !strings.Contains(got, "kind 2") || !strings.Contains(got, `"x"`) {
		t.Errorf("shown: %s", got)
	}
}

// TestOfNoText: a test that is written wrong is told so.
func TestOfNoText(t *testing.T) {
	for _, s := range []string{"", "[", "1 2", "1e99999"} {
		func() {
			defer func() {
				if recover() == nil {
					t.Errorf("Of %s: a value", s)
				}
			}()
			sample.Of(s)
		}()
	}
}
