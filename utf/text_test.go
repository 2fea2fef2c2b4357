package utf_test

import (
	"math"
	"slices"
	"strings"
	"testing"

	"lorgnette/api"
	"lorgnette/utf"
)

func TestValidCleanExplode(t *testing.T) {
	for _, b := range texts() {
		l, clean, sound := told(b)
		if got := utf.Valid(b); got != sound {
			t.Errorf("Valid(%x): %d, not %d", b, got, sound)
		}
		if got := utf.Clean(b); got != clean {
			t.Errorf("Clean(%x): %x, not %x", b, got, clean)
		}
		if got := utf.Explode(b); !slices.Equal(got, l) {
			t.Errorf("Explode(%x): %d, not %d", b, got, l)
		}
	}
}

func TestValidCleanExplodeByHand(t *testing.T) {
	const r = replaced
	for _, c := range []struct {
		b     string
		valid int
		clean string
		l     []int
	}{
		{"", 0, "", nil},
		{"abc", 3, "abc", []int{97, 98, 99}},
		{"aäb", 4, "aäb", []int{97, 228, 98}},
		{"€😀", 7, "€😀", []int{8364, 128512}},
		{"a\xc0\x80", 1, "a" + r + r, []int{97, 65533, 65533}},
		{"a\xff", 1, "a" + r, []int{97, 65533}},
		{"\xffa", 0, r + "a", []int{65533, 97}},
		{"a\xfeb", 1, "a" + r + "b", []int{97, 65533, 98}},
		{"\xff\xff", 0, r + r, []int{65533, 65533}},
		// A replacement of the text's own is as sound as any other.
		{r, 3, r, []int{65533}},
		{"a" + r + "b", 5, "a" + r + "b", []int{97, 65533, 98}},
		{r + "\xff" + r, 3, r + r + r, []int{65533, 65533, 65533}},
		{r + r + "\xbd", 6, r + r + r, []int{65533, 65533, 65533}},
		// Each byte of what is cut off stands for itself.
		{"ab\xe2\x82", 2, "ab" + r + r, []int{97, 98, 65533, 65533}},
		{"\xe2\x82ab", 0, r + r + "ab", []int{65533, 65533, 97, 98}},
		{"\xf0\x9f\x98", 0, r + r + r, []int{65533, 65533, 65533}},
		{"ä\xc3ä", 2, "ä" + r + "ä", []int{228, 65533, 228}},
		{"\xe2\x82\xe2\x82\xac", 0, r + r + "€", []int{65533, 65533, 8364}},
		{"\xed\xa0\x80", 0, r + r + r, []int{65533, 65533, 65533}},
		{"\xf4\x90\x80\x80", 0, r + r + r + r, []int{65533, 65533, 65533, 65533}},
		{"€\x80€", 3, "€" + r + "€", []int{8364, 65533, 8364}},
	} {
		valid, clean, l := utf.Valid(c.b), utf.Clean(c.b), utf.Explode(c.b)
		if valid != c.valid || clean != c.clean || !slices.Equal(l, c.l) {
			t.Errorf("%x: %d, %x, %d", c.b, valid, clean, l)
		}
	}
}

func TestImplode(t *testing.T) {
	for _, c := range []struct {
		l []int
		b string
	}{
		{nil, ""}, {[]int{}, ""}, {[]int{0}, "\x00"}, {[]int{97, 228, 98}, "aäb"}, {[]int{8364, 128512}, "€😀"}, {[]int{65533}, replaced},
		{[]int{127, 128, 2047, 2048, 55295, 57344, 65535, 65536, 1114111}, "\x7f\xc2\x80\xdf\xbf\xe0\xa0\x80\xed\x9f\xbf\xee\x80\x80\xef\xbf\xbf\xf0\x90\x80\x80\xf4\x8f\xbf\xbf"},
	} {
		if b, err := utf.Implode(c.l); b != c.b || err != api.OK {
			t.Errorf("Implode(%d): %x, %d", c.l, b, err)
		}
	}
	for _, p := range notPoints() {
		for _, l := range [][]int{{p}, {p, 97}, {97, p}, {97, p, 98}, {p, p}} {
			if b, err := utf.Implode(l); b != "" || err != api.ErrArg {
				t.Errorf("Implode(%d): %x, %d", l, b, err)
			}
		}
	}
}

func TestCmp(t *testing.T) {
	all := texts()
	for i, a := range all {
		for _, b := range []string{"", a, a + "a", "a", "\xff", replaced, "😀", utf.Clean(a), all[(i+1)%len(all)], all[(7*i+3)%len(all)]} {
			x, _, _ := told(a)
			y, _, _ := told(b)
			want := slices.Compare(x, y)
			if got := utf.Cmp(a, b); got != want {
				t.Errorf("Cmp(%x, %x): %d", a, b, got)
			}
			if got := utf.Cmp(b, a); got != -want {
				t.Errorf("Cmp(%x, %x): %d", b, a, got)
			}
		}
	}
}

func TestCmpByHand(t *testing.T) {
	for _, c := range []struct {
		a, b string
		want int
	}{
		{"", "", 0}, {"", "a", -1}, {"", "\x00", -1}, {"", "\xff", -1}, {"a", "ab", -1}, {"abc", "abc", 0}, {"abc", "abd", -1}, {"abd", "abcd", 1}, {"b", "abc", 1}, {"Z", "a", -1}, {"z", "ä", -1}, {"ä", "€", -1}, {"€", "😀", -1}, {"\ue000", "😀", -1}, {"\uffff", "😀", -1}, {"aä", "a€", -1}, {"aäb", "aä", 1},
		// By code points: of bytes that are not sound, 65533 alone counts.
		{"\xff", replaced, 0}, {"\xff", "\xfe", 0}, {"\xff", "\x80", 0}, {"\xe2\x82", replaced + "\xff", 0}, {"a\xffb", "a" + replaced + "c", -1}, {"\xff", "😀", -1}, {"\x80", "ä", 1}, {"\xff", "\ufffe", -1}, {"\x80", "\ufffc", 1}, {"\xff", "\xff\xff", -1}, {"\xff", "\xffa", -1},
	} {
		if there, back := utf.Cmp(c.a, c.b), utf.Cmp(c.b, c.a); there != c.want || back != -c.want {
			t.Errorf("Cmp(%x, %x): %d; turned round: %d", c.a, c.b, there, back)
		}
	}
}

// cut is what Slice should tell.
func cut(b string, from, to int) string {
	l, _, _ := told(b)
	from, to = min(max(from, 0), len(l)), min(max(to, 0), len(l))
	var part strings.Builder
	for i := from; i < to; i++ {
		part.WriteString(bytesOf(l[i]))
	}
	return part.String()
}

func TestSlice(t *testing.T) {
	places := []int{math.MinInt, -100, -1, 0, 1, 2, 3, 4, 5, 9, 100, math.MaxInt}
	for i, b := range texts() {
		for _, from := range places {
			for _, to := range places {
				if got, want := utf.Slice(b, from, to), cut(b, from, to); got != want {
					t.Errorf("text %d: Slice(%x, %d, %d): %x, not %x", i, b, from, to, got, want)
				}
			}
		}
	}
}

func TestSliceByHand(t *testing.T) {
	for _, c := range []struct {
		b        string
		from, to int
		want     string
	}{
		{"aäb", 1, 2, "ä"}, {"aäb", 0, 3, "aäb"}, {"aäb", 0, 1, "a"}, {"aäb", 2, 3, "b"}, {"a€😀b", 1, 3, "€😀"}, {"", 0, 1, ""}, {"", 0, 0, ""},
		// Below 0, beyond the end.
		{"aäb", -5, 2, "aä"}, {"aäb", -5, -2, ""}, {"aäb", -1, 0, ""}, {"aäb", -1, 3, "aäb"}, {"aäb", 1, 100, "äb"}, {"aäb", 3, 100, ""}, {"aäb", 50, 100, ""}, {"aäb", math.MinInt, math.MaxInt, "aäb"},
		// To isn't above from.
		{"aäb", 2, 1, ""}, {"aäb", 1, 1, ""}, {"aäb", 100, 1, ""}, {"aäb", 2, -1, ""}, {"aäb", math.MaxInt, math.MinInt, ""},
		// Bytes that are not sound are a place each, and told as 65533.
		{"a\xffb", 1, 2, replaced}, {"\xff", 0, 1, replaced}, {"\xe2\x82a", 1, 3, replaced + "a"}, {"\xe2\x82a", 2, 3, "a"}, {"a\xf0\x9f", 0, 2, "a" + replaced}, {"\xc3ä", 1, 2, "ä"},
	} {
		if got := utf.Slice(c.b, c.from, c.to); got != c.want {
			t.Errorf("Slice(%x, %d, %d): %x", c.b, c.from, c.to, got)
		}
	}
}
