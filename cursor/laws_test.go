package cursor_test

import (
	"math/rand"
	"slices"
	"strings"
	"testing"

	"lorgnette/api"
	"lorgnette/cursor"
	"lorgnette/valid"
)

// lawful are Docs' texts, short and long.
func lawful() []string {
	chance := rand.New(rand.NewSource(1))
	var all []string
	for range 400 {
		all = append(all, anyBlanks(chance)+strings.ReplaceAll(anyText(chance, 2+chance.Intn(6)), "1e10001", "1e-9"))
	}
	return all
}

// within goes through a part, its items, what stands in them, and so on.
func within(t *testing.T, d *cursor.Doc, s api.Span, see func(s api.Span, items []api.Span)) {
	items, err := d.Items(s)
	if err != api.OK && err != api.ErrKind {
		t.Fatalf("Items(%v): %d", s, err)
	}
	see(s, items)
	for _, item := range items {
		within(t, d, item, see)
	}
}

// TestItemsArePartsThatRise asks that they are within the part they are told of.
func TestItemsArePartsThatRise(t *testing.T) {
	for _, b := range lawful() {
		d := docOf(t, b)
		within(t, d, d.Root(), func(s api.Span, items []api.Span) {
			last := s.From
			for _, item := range items {
				if item.From <= last || item.To >= s.To || !valid.One([]byte(b[item.From:item.To])) {
					t.Errorf("%s: Items(%v): %v", name(b), s, items)
				}
				last = item.To
			}
		})
	}
}

// TestWholesAndParts holds an item's value against the whole's value at its place.
func TestWholesAndParts(t *testing.T) {
	for _, b := range lawful() {
		d := docOf(t, b)
		within(t, d, d.Root(), func(s api.Span, items []api.Span) {
			whole, err := d.Value(s)
			if err != api.OK {
				t.Errorf("%s: Value(%v): %d", name(b), s, err)
			}
			for i, x := range whole.Arr {
				one, err := d.Item(s, i)
				if v, e := d.Value(items[i]); one != items[i] || err != api.OK || !same(v, x) || e != api.OK {
					t.Errorf("%s: Value(%v): %v, not %v", name(b), items[i], v, x)
				}
			}
			keys, _ := d.Keys(s)
			if len(keys) != len(whole.Obj) || whole.Kind == api.Array && len(items) != len(whole.Arr) {
				t.Errorf("%s: %v: %q, %v, %v", name(b), s, keys, items, whole)
			}
			for i, f := range whole.Obj {
				one, err := d.Key(s, f.Key)
				if v, e := d.Value(one); keys[i] != f.Key || err != api.OK || !slices.Contains(items, one) || !same(v, f.Val) || e != api.OK {
					t.Errorf("%s: Key(%v, %q): %v, not %v", name(b), s, f.Key, v, f.Val)
				}
			}
		})
	}
}

// TestPartsAreDocs makes Docs of parts' bytes.
func TestPartsAreDocs(t *testing.T) {
	for _, b := range lawful() {
		d := docOf(t, b)
		within(t, d, d.Root(), func(s api.Span, items []api.Span) {
			part, _ := d.Bytes(s)
			e := docOf(t, string(part))
			v, err := d.Value(s)
			if w, wrong := e.Value(e.Root()); !same(v, w) || err != wrong || e.Root() != (api.Span{To: len(part)}) {
				t.Errorf("%s: %v: %v, not %v", name(b), s, w, v)
			}
			l, _ := e.Items(e.Root())
			for i := range l {
				l[i].From, l[i].To = l[i].From+s.From, l[i].To+s.From
			}
			if !slices.Equal(l, items) {
				t.Errorf("%s: %v: %v, not %v", name(b), s, l, items)
			}
		})
	}
}

// bare is a text without quotes, and without the blanks that can't stand in them.
func bare(chance *rand.Rand, deep int) string {
	if deep == 0 {
		return []string{"null", "true", "12", "-0.5e3", "[ ]", "{}"}[chance.Intn(6)]
	}
	var l []string
	for range chance.Intn(4) {
		l = append(l, " "[chance.Intn(2):]+bare(chance, chance.Intn(deep))+" "[chance.Intn(2):])
	}
	return "[" + strings.Join(l, ",") + "]"
}

// TestQuotedParts asks for texts that stand in quotes as for those that don't.
func TestQuotedParts(t *testing.T) {
	chance := rand.New(rand.NewSource(11))
	all := []string{nested(200), "[12, [[], -0.5e3 ], null, true]"}
	for deep := range 300 {
		all = append(all, bare(chance, deep%5))
	}
	for _, b := range all {
		d, long := docOf(t, b), `["[", "`+b+`", {"`+b+`": 1}]`
		e := docOf(t, long)
		for _, from := range []int{7, 7 + len(b) + 5} {
			s := api.Span{From: from, To: from + len(b)}
			hold(t, e, long, s)
			v, _ := d.Value(d.Root())
			if w, err := e.Value(s); !same(v, w) || err != api.OK {
				t.Errorf("%s: %v, %d, not %v", name(long), w, err, v)
			}
		}
	}
}

// TestAnswersAreTheCallers turns all that was told, and asks again.
func TestAnswersAreTheCallers(t *testing.T) {
	b := ` {"a":[1,"x"],"b":{"c":12345678901234567890}, "d":"[[1],2]"}`
	d := docOf(t, b)
	for _, s := range []api.Span{d.Root(), {From: 6, To: 13}, {From: 18, To: 44}, {From: 51, To: 58}} {
		for range 2 {
			hold(t, d, b, s)
			text, err := d.Bytes(s)
			if err != api.OK {
				t.Fatal(s, err)
			}
			clear(text)
			_ = append(text[:0], "]]]]"...)
			items, _ := d.Items(s)
			clear(items)
			keys, _ := d.Keys(s)
			clear(keys)
			v, _ := d.Value(s)
			wipe(v)
		}
		hold(t, d, b, s)
	}
}

func wipe(v api.Value) {
	for _, x := range v.Arr {
		wipe(x)
	}
	for _, f := range v.Obj {
		wipe(f.Val)
	}
	clear(v.Arr)
	clear(v.Obj)
	clear(v.Num.Limbs)
}

func TestLongTexts(t *testing.T) {
	entry := `{"a": [1, "é]", {}], "b": -2.5}`
	b := "[" + strings.Repeat(entry+",\n", 20000) + "[]]"
	d := docOf(t, b)
	items, err := d.Items(d.Root())
	if len(items) != 20001 || err != api.OK {
		t.Fatal(len(items), err)
	}
	for i, s := range items[:20000] {
		from := 1 + i*(len(entry)+2)
		if s != (api.Span{From: from, To: from + len(entry)}) {
			t.Fatal(i, s)
		}
		if one, err := d.Key(s, "b"); one != (api.Span{From: s.To - 5, To: s.To - 1}) || err != api.OK {
			t.Fatal(i, one, err)
		}
		if kind, err := d.Kind(s); kind != api.Object || err != api.OK {
			t.Fatal(i, kind, err)
		}
	}
	for _, i := range []int{0, 1, 9999, 19999, 20000} {
		for _, at := range []int{i, i - 20001} {
			if s, err := d.Item(d.Root(), at); s != items[i] || err != api.OK {
				t.Error(at, s, err)
			}
		}
	}
	first, _ := d.Value(items[0])
	whole, err := d.Value(d.Root())
	if len(whole.Arr) != 20001 || err != api.OK || !same(whole.Arr[19999], first) || !same(whole.Arr[20000], api.Value{Kind: api.Array}) {
		t.Error(len(whole.Arr), err)
	}
	text, err := d.Bytes(d.Root())
	if string(text) != b || err != api.OK {
		t.Error(len(text), err)
	}
}
