package cursor_test

import (
	"math"
	"math/rand"
	"slices"
	"strings"
	"testing"

	"lorgnette/api"
)

// texts are those of which all spans are asked.
func texts() []string {
	return []string{
		"null", "true", "false", "0", "-12.5e+30", `""`, `"a"`, "[]", "{}", " [ ] ", "\n{\t}\r", "  12  ",
		`{"a":[1,2],"a":3}`, ` ["[1,2]", 1e99999]`, "[1,[2,[]],{}]", "[ 1 , 2 ]", `{ "a" : { } , "b" : [ ] }`, `{"a":1,"b":2,"a":{"a":3}}`, `{"a":1,"\u0061":2}`, `{"é":1,"\u00E9":"é"}`, `{"\ud834":1,"\ufffd":2}`, `{"":0,"":1}`,
		// Texts in quotes that hold texts, or ends of them.
		`"[1,2]"`, `"{\"a\":1}"`, `["[", "]"]`, `["{", "a", ":", "}"]`, `["[","]","[1,","2]"]`, `{"[":"]","{":"}"}`, `["1","2"]`, `[" [ 1 , 2 ] "]`, `"true null 12 \"x\""`, `["[\"a\"]"]`, `["[[[[", "]]]]"]`, `["\\", "\\\\", "\""]`, `["a\\","[1]"]`, `{"{}":"[{}]"}`, `"\"\"\""`, `"[\u005b]"`, `[":", ",", 1]`,
		// Numbers and words in parts.
		"[120, -0.50e-10, true]", "[1e10000,1e10001]", `{"a":1e10001,"a":1}`, `[[1e-10001],"1e99999"]`,
		// Code points of more bytes than one.
		`"äé€😀"`, `["ä", {"€": "😀"}]`,
	}
}

// TestAllSpans asks for all spans of texts, and for some beyond them.
func TestAllSpans(t *testing.T) {
	all := texts()
	chance := rand.New(rand.NewSource(1010))
	for range 300 {
		if b := anyBlanks(chance) + anyText(chance, 3) + anyBlanks(chance); len(b) < 80 {
			all = append(all, b)
		}
	}
	for _, b := range all {
		d := docOf(t, b)
		for from := -1; from <= len(b)+1; from++ {
			for to := -1; to <= len(b)+1; to++ {
				hold(t, d, b, api.Span{From: from, To: to})
			}
		}
		for _, s := range wildSpans() {
			holdNone(t, d, b, s)
		}
	}
}

// TestWordsBorders asks for texts that stand beside the borders of words of 64 bytes.
func TestWordsBorders(t *testing.T) {
	for _, b := range texts() {
		for _, n := range []int{0, 1, 31, 32, 62, 63, 64, 65, 127, 128} {
			for shift := range 3 {
				ahead := strings.Repeat(" ", max(0, n-shift*len(b)/2))
				long := ahead + `[` + strings.Repeat(" ", n) + b + strings.Repeat("\n", n) + `,"` + strings.Repeat(`\\`, n) + `\"",` + b + `]`
				d := docOf(t, long)
				root, _ := nodeOf(long, d.Root())
				for _, n := range append(root.kids, root) {
					hold(t, d, long, n.Span)
					for _, kid := range n.kids {
						hold(t, d, long, kid.Span)
						hold(t, d, long, api.Span{From: kid.From, To: kid.To + 1})
						hold(t, d, long, api.Span{From: kid.From + 1, To: kid.To})
					}
				}
			}
		}
	}
}

func TestKindsByHand(t *testing.T) {
	b := `[null,true,false,-1,"x",[],{}]`
	d := docOf(t, b)
	want := []int{api.Null, api.True, api.False, api.Number, api.Text, api.Array, api.Object}
	items, err := d.Items(d.Root())
	if len(items) != len(want) || err != api.OK {
		t.Fatal(items, err)
	}
	for i, s := range items {
		if kind, err := d.Kind(s); kind != want[i] || err != api.OK {
			t.Errorf("Kind(%v): %d, %d, not %d", s, kind, err, want[i])
		}
		if text, err := d.Bytes(s); string(text) != strings.Split(b[1:len(b)-1], ",")[i] || err != api.OK {
			t.Errorf("Bytes(%v): %q, %d", s, text, err)
		}
	}
}

// TestStraightThroughQuotes asks for parts that begin in one text in quotes and end in another.
func TestStraightThroughQuotes(t *testing.T) {
	d := docOf(t, `["[", "]"]`) // at 2: [", "]
	across := api.Span{From: 2, To: 8}
	if l, err := d.Items(across); !slices.Equal(l, []api.Span{{From: 3, To: 7}}) || err != api.OK {
		t.Error(l, err)
	}
	if s, err := d.Item(across, -1); s != (api.Span{From: 3, To: 7}) || err != api.OK {
		t.Error(s, err)
	}
	if v, err := d.Value(across); len(v.Arr) != 1 || v.Arr[0].Str != ", " || err != api.OK {
		t.Error(v, err)
	}
	if kind, err := d.Kind(api.Span{From: 3, To: 7}); kind != api.Text || err != api.OK {
		t.Error(kind, err)
	}
	d = docOf(t, `["{","b","}"]`) // at 2: {","b","}, at 3: ",", at 6: b
	for s, want := range map[api.Span]api.Errno{{From: 2, To: 11}: api.ErrArg, {From: 3, To: 6}: api.OK, {From: 4, To: 5}: api.ErrArg, {From: 5, To: 8}: api.OK, {From: 6, To: 7}: api.ErrArg} {
		if _, err := d.Kind(s); err != want {
			t.Errorf("Kind(%v): %d, not %d", s, err, want)
		}
	}
	d = docOf(t, `["{", ":{}}"]`) // at 2: {", ":{}}
	object := api.Span{From: 2, To: 11}
	if l, err := d.Keys(object); !slices.Equal(l, []string{", "}) || err != api.OK {
		t.Error(l, err)
	}
	if s, err := d.Key(object, ", "); s != (api.Span{From: 8, To: 10}) || err != api.OK {
		t.Error(s, err)
	}
}

func TestItemByHand(t *testing.T) {
	d := docOf(t, `[10, [20, 21] ,{"a":[]}, "x" ]`)
	want := []api.Span{{From: 1, To: 3}, {From: 5, To: 13}, {From: 15, To: 23}, {From: 25, To: 28}}
	if l, err := d.Items(d.Root()); !slices.Equal(l, want) || err != api.OK {
		t.Error(l, err)
	}
	for i, s := range want {
		for _, at := range []int{i, i - len(want)} {
			if one, err := d.Item(d.Root(), at); one != s || err != api.OK {
				t.Errorf("Item(%d): %v, %d", at, one, err)
			}
		}
	}
	for _, i := range []int{math.MinInt, math.MinInt + 1, math.MinInt + 4, -6, -5, 4, 5, math.MaxInt - 1, math.MaxInt} {
		for _, s := range []api.Span{d.Root(), {From: 20, To: 22}} {
			if one, err := d.Item(s, i); one != (api.Span{}) || err != api.ErrNone {
				t.Errorf("Item(%v, %d): %v, %d", s, i, one, err)
			}
		}
	}
	for _, i := range []int{math.MinInt, -1, 0, math.MaxInt} {
		if one, err := d.Item(api.Span{From: 15, To: 23}, i); one != (api.Span{}) || err != api.ErrKind {
			t.Errorf("an object's Item(%d): %v, %d", i, one, err)
		}
		if one, err := d.Item(api.Span{From: 25, To: 28}, i); one != (api.Span{}) || err != api.ErrKind {
			t.Errorf("a text's Item(%d): %v, %d", i, one, err)
		}
	}
	if l, err := d.Items(api.Span{From: 20, To: 22}); len(l) != 0 || err != api.OK {
		t.Error(l, err)
	}
}

func TestKeysByHand(t *testing.T) {
	b := `{"b":1, "a" : 2,"\u0062":[3] ,"":4,"ä":5,"\u00E4":6,"\ud800":7,"\ufffd":8,"x\ty":9}`
	d := docOf(t, b)
	if l, err := d.Keys(d.Root()); !slices.Equal(l, []string{"b", "a", "", "ä", "\ufffd", "x\ty"}) || err != api.OK {
		t.Errorf("%q, %d", l, err)
	}
	for key, want := range map[string]string{"b": "[3]", "a": "2", "": "4", "ä": "6", "\ufffd": "8", "x\ty": "9"} {
		s, err := d.Key(d.Root(), key)
		if err != api.OK || b[s.From:s.To] != want {
			t.Errorf("Key(%q): %v, %d", key, s, err)
		}
	}
	// A key is what it stands for, not how it is written; no key is a part of another; none stands for what isn't sound.
	for _, key := range []string{`\u0062`, `"a"`, "A", "aa", "c", "\xff", "a\xe4", "ä ", "x", `x\ty`, "a\x00", "\xed\xa0\x80"} {
		if s, err := d.Key(d.Root(), key); s != (api.Span{}) || err != api.ErrNone {
			t.Errorf("Key(%q): %v, %d", key, s, err)
		}
	}
	d = docOf(t, `[{},["a"],"a",1]`)
	if l, err := d.Keys(api.Span{From: 1, To: 3}); len(l) != 0 || err != api.OK {
		t.Error(l, err)
	}
	if s, err := d.Key(api.Span{From: 1, To: 3}, ""); s != (api.Span{}) || err != api.ErrNone {
		t.Error(s, err)
	}
	for _, s := range []api.Span{d.Root(), {From: 4, To: 9}, {From: 10, To: 13}, {From: 14, To: 15}} {
		if l, err := d.Keys(s); l != nil || err != api.ErrKind {
			t.Errorf("Keys(%v): %v, %d", s, l, err)
		}
		if one, err := d.Key(s, "a"); one != (api.Span{}) || err != api.ErrKind {
			t.Errorf("Key(%v): %v, %d", s, one, err)
		}
	}
}

// TestKeysHoldAtTheirOwnObject asks that no key of what stands within counts.
func TestKeysHoldAtTheirOwnObject(t *testing.T) {
	d := docOf(t, `{"a":{"b":1,"a":2},"c":[{"d":3}]}`)
	if l, err := d.Keys(d.Root()); !slices.Equal(l, []string{"a", "c"}) || err != api.OK {
		t.Error(l, err)
	}
	if s, err := d.Key(d.Root(), "a"); s != (api.Span{From: 5, To: 18}) || err != api.OK {
		t.Error(s, err)
	}
	for _, key := range []string{"b", "d"} {
		if s, err := d.Key(d.Root(), key); err != api.ErrNone {
			t.Error(key, s, err)
		}
	}
}

func TestDepthOfParts(t *testing.T) {
	for _, n := range []int{1, 2, 199, 200} {
		b := nested(n)
		d := docOf(t, b)
		s := d.Root()
		for range n - 1 {
			l, err := d.Items(s)
			if err != api.OK || len(l) != 1 || l[0] != (api.Span{From: s.From + 1, To: s.To - 1}) {
				t.Fatalf("%d deep: Items(%v): %v, %d", n, s, l, err)
			}
			s = l[0]
		}
		if l, err := d.Items(s); len(l) != 0 || err != api.OK {
			t.Errorf("%d deep: Items(%v): %v, %d", n, s, l, err)
		}
	}
	// In quotes more may stand, but no part is more than 200 deep.
	b := `"` + nested(202) + `"`
	d := docOf(t, b)
	for n := 198; n <= 202; n++ {
		s := api.Span{From: 203 - n, To: 203 + n}
		if _, is := nodeOf(b, s); is != (n <= 200) {
			t.Fatal(n, is)
		}
		hold(t, d, b, s)
	}
}
