package cursor_test

import (
	"sync"
	"testing"

	"lorgnette/api"
	"lorgnette/cursor"
)

// lookAll makes each of the calls that count, once for each span.
func lookAll(d *cursor.Doc, spans []api.Span) int {
	for _, s := range spans {
		d.Bytes(s)
		d.Kind(s)
		d.Items(s)
		d.Keys(s)
		d.Item(s, 0)
		d.Key(s, "a")
		d.Value(s)
	}
	return 7 * len(spans)
}

func TestLooks(t *testing.T) {
	d := docOf(t, `{"a":[1,"[2]"],"a":1e99999}`)
	spans := append(wildSpans(), d.Root(), api.Span{From: 5, To: 14}, api.Span{From: 9, To: 12}, api.Span{From: 6, To: 7}, api.Span{From: 7, To: 8}, api.Span{From: 19, To: 26})
	for _, doc := range []*cursor.Doc{d, {}} {
		if n := doc.Looks(); n != 0 {
			t.Error("at first", n)
		}
		want := 0
		for _, look := range []func(s api.Span){
			func(s api.Span) { doc.Bytes(s) },
			func(s api.Span) { doc.Kind(s) },
			func(s api.Span) { doc.Items(s) },
			func(s api.Span) { doc.Keys(s) },
			func(s api.Span) { doc.Item(s, 1) },
			func(s api.Span) { doc.Item(s, -9) },
			func(s api.Span) { doc.Key(s, "a") },
			func(s api.Span) { doc.Key(s, "b") },
			func(s api.Span) { doc.Value(s) },
		} {
			for _, s := range spans {
				look(s)
				want++
				doc.Root()
				if n := doc.Looks(); n != want || doc.Looks() != want {
					t.Fatalf("%v: %d, not %d", s, n, want)
				}
			}
		}
	}
	var none *cursor.Doc
	lookAll(none, spans)
	if n := none.Looks(); n != 0 {
		t.Error("nil", n)
	}
	if other := docOf(t, "1"); other.Looks() != 0 {
		t.Error("Docs share their looks")
	}
}

// TestLooksAtTheSameTime asks one Doc from many sides, before its directories are made.
func TestLooksAtTheSameTime(t *testing.T) {
	b := `{"a":[1,"[2]",{"b":[[],{}]}],"a":[1e9]}`
	for range 50 {
		d := docOf(t, b)
		root, _ := nodeOf(b, d.Root())
		spans := append(root.spans(), root.Span, root.kids[0].kids[2].Span, api.Span{From: 9, To: 12}, api.Span{From: 1, To: 5})
		var all sync.WaitGroup
		for range 8 {
			all.Go(func() {
				lookAll(d, spans)
				for _, s := range spans {
					n, is := nodeOf(b, s)
					want, _ := n.value(b)
					if v, err := d.Value(s); is != (err == api.OK) || is && !same(v, want) {
						t.Errorf("Value(%v): %v, %d", s, v, err)
					}
				}
			})
		}
		all.Wait()
		if n := d.Looks(); n != 8*8*len(spans) {
			t.Errorf("%d, not %d", n, 8*8*len(spans))
		}
	}
}
