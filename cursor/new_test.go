package cursor_test

import (
	"math"
	"math/rand"
	"strings"
	"testing"

	"lorgnette/api"
	"lorgnette/cursor"
	"lorgnette/valid"
)

func nested(n int) string {
	return strings.Repeat("[", n) + strings.Repeat("]", n)
}

func TestNewByHand(t *testing.T) {
	for b, want := range map[string]api.Errno{
		"1": api.OK, " 1 ": api.OK, "\t\n\r[]": api.OK, "null": api.OK, `{"a":[1,2],"a":3}`: api.OK, "1e99999": api.OK, `"[1"`: api.OK, nested(200): api.OK, strings.Repeat("[[[]],", 60) + "1" + strings.Repeat("]", 60): api.OK,
		// It ends too early, or there is nothing.
		"": api.ErrShort, " \n": api.ErrShort, "[1": api.ErrShort, "nul": api.ErrShort, "-": api.ErrShort, `"a`: api.ErrShort, `{"a":`: api.ErrShort, "1 [": api.ErrShort, "1 2 [": api.ErrShort, "\"\xe2\x82": api.ErrShort, strings.Repeat("[", 200): api.ErrShort,
		// More than one, or a wrong byte.
		"1 2": api.ErrForm, "[] [] []": api.ErrForm, "[1}": api.ErrForm, "x": api.ErrForm, "[1]2": api.ErrForm, "01": api.ErrForm, "1 2 x": api.ErrForm, "{1:2}": api.ErrForm, "\"\xff\"": api.ErrForm, "\ufeff1": api.ErrForm, "[1,]": api.ErrForm,
		// Too deep, also behind others.
		nested(201): api.ErrDepth, strings.Repeat("[", 201): api.ErrDepth, "1 " + nested(300): api.ErrDepth, strings.Repeat(`{"a":`, 201): api.ErrDepth, nested(201) + "x": api.ErrDepth,
	} {
		d, err := cursor.New([]byte(b))
		if err != want || (d == nil) != (want != api.OK) {
			t.Errorf("New(%s): %v, %d, not %d", name(b), d, err, want)
		}
	}
	if d, err := cursor.New(nil); d != nil || err != api.ErrShort {
		t.Error(d, err)
	}
}

// TestNewIsCheck holds New against chapter 9's Check.
func TestNewIsCheck(t *testing.T) {
	chance := rand.New(rand.NewSource(10))
	for range 5000 {
		b := anyBlanks(chance) + anyText(chance, chance.Intn(4)) + anyBlanks(chance)
		switch at := chance.Intn(len(b) + 1); chance.Intn(4) {
		case 0:
			b = b[:at]
		case 1:
			b = b[:at] + plains()[chance.Intn(len(plains()))] + b[at:]
		case 2:
			b += " " + anyText(chance, 1)
		}
		spans, f := valid.Check([]byte(b), 200)
		want := []api.Errno{api.OK, api.ErrForm, api.ErrShort, api.ErrDepth}[f.Why]
		if f.Why == api.WhyNone && len(spans) != 1 {
			want = []api.Errno{api.ErrShort, api.OK, api.ErrForm}[min(len(spans), 2)]
		}
		d, err := cursor.New([]byte(b))
		if err != want {
			t.Errorf("New(%q): %d, not %d", b, err, want)
		}
		if err == api.OK && d.Root() != spans[0] {
			t.Errorf("New(%q): Root %v, not %v", b, d.Root(), spans[0])
		}
	}
}

func TestRootByHand(t *testing.T) {
	for b, want := range map[string]api.Span{
		"1": {From: 0, To: 1}, " 1 ": {From: 1, To: 2}, "\t\n\r[ ] ": {From: 3, To: 6}, `{"a":[1,2],"a":3}`: {From: 0, To: 17}, ` " " `: {From: 1, To: 4},
	} {
		if s := docOf(t, b).Root(); s != want {
			t.Errorf("%q: Root %v, not %v", b, s, want)
		}
	}
}

// TestNoNew asks Docs that no New gave.
func TestNoNew(t *testing.T) {
	for _, d := range []*cursor.Doc{nil, {}, new(cursor.Doc)} {
		if s := d.Root(); s != (api.Span{}) {
			t.Error("Root", s)
		}
		for _, s := range wildSpans() {
			holdNone(t, d, "", s)
		}
	}
}

// wildSpans are parts of no text of fewer than 100 bytes.
func wildSpans() []api.Span {
	var l []api.Span
	places := []int{math.MinInt, math.MinInt + 1, -100, -1, 0, 100, math.MaxInt - 1, math.MaxInt}
	for _, from := range places {
		for _, to := range places {
			l = append(l, api.Span{From: from, To: to})
		}
	}
	return l
}

// TestBytesThatWereHandedIn asks that New keeps a copy, and changes nothing.
func TestBytesThatWereHandedIn(t *testing.T) {
	text := ` {"a": [1, "b"], "c": null} `
	for range 2 {
		b := []byte(text)
		d, _ := cursor.New(b)
		if string(b) != text {
			t.Fatal("bytes that were handed in have changed")
		}
		for i := range b {
			b[i] = ']'
		}
		hold(t, d, text, d.Root())
		clear(b)
		hold(t, d, text, api.Span{From: 7, To: 15})
	}
}
