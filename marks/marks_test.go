package marks_test

import (
	"slices"
	"strings"
	"testing"

	"lorgnette/api"
	"lorgnette/marks"
)

func TestMarksByHand(t *testing.T) {
	blanks := strings.Repeat(" ", 62)
	letters := strings.Repeat("a", 62)
	for _, c := range []struct {
		b    string
		want []api.Mark
	}{
		{"", nil}, {" \t\n\r", nil},
		{"0", []api.Mark{{At: 0, Kind: 48}}},
		{" null ", []api.Mark{{At: 1, Kind: 48}}},
		{"[]{}:,", []api.Mark{{At: 0, Kind: '['}, {At: 1, Kind: ']'}, {At: 2, Kind: '{'}, {At: 3, Kind: '}'}, {At: 4, Kind: ':'}, {At: 5, Kind: ','}}},
		{`[1, "a:"]`, []api.Mark{{At: 0, Kind: '['}, {At: 1, Kind: 48}, {At: 2, Kind: ','}, {At: 4, Kind: 34}, {At: 8, Kind: ']'}}},
		{`"[]{}:, 1"`, []api.Mark{{At: 0, Kind: 34}}},
		{`"a"b"c"`, []api.Mark{{At: 0, Kind: 34}, {At: 3, Kind: 48}, {At: 4, Kind: 34}}},
		{`""""`, []api.Mark{{At: 0, Kind: 34}, {At: 2, Kind: 34}}},
		{`"\""1`, []api.Mark{{At: 0, Kind: 34}, {At: 4, Kind: 48}}},
		{`"\\"1`, []api.Mark{{At: 0, Kind: 34}, {At: 4, Kind: 48}}},
		// Outside strings: an escaped quote is as any other byte, an escaped bracket or blank stays what it is.
		{`\"1`, []api.Mark{{At: 0, Kind: 48}}},
		{`[\"`, []api.Mark{{At: 0, Kind: '['}, {At: 1, Kind: 48}}},
		{`\\"1`, []api.Mark{{At: 0, Kind: 48}, {At: 2, Kind: 34}}},
		{`\[1`, []api.Mark{{At: 0, Kind: 48}, {At: 1, Kind: '['}, {At: 2, Kind: 48}}},
		{`\ 1`, []api.Mark{{At: 0, Kind: 48}, {At: 2, Kind: 48}}},
		{"1\v2\x00\xff3", []api.Mark{{At: 0, Kind: 48}}},
		// Beside a word's border.
		{blanks + "12", []api.Mark{{At: 62, Kind: 48}}},
		{blanks + "123", []api.Mark{{At: 62, Kind: 48}}},
		{blanks + " 1", []api.Mark{{At: 63, Kind: 48}}},
		{blanks + " 12", []api.Mark{{At: 63, Kind: 48}}},
		{blanks + "1 2", []api.Mark{{At: 62, Kind: 48}, {At: 64, Kind: 48}}},
		{blanks + "1,2", []api.Mark{{At: 62, Kind: 48}, {At: 63, Kind: ','}, {At: 64, Kind: 48}}},
		{blanks + `""2`, []api.Mark{{At: 62, Kind: 34}, {At: 64, Kind: 48}}},
		{letters + "aa", []api.Mark{{At: 0, Kind: 48}}},
		{letters + letters + letters, []api.Mark{{At: 0, Kind: 48}}},
		{letters + "aa]", []api.Mark{{At: 0, Kind: 48}, {At: 64, Kind: ']'}}},
		{letters + `\\"]`, []api.Mark{{At: 0, Kind: 48}, {At: 64, Kind: 34}}},
		{letters + `a\"]`, []api.Mark{{At: 0, Kind: 48}, {At: 65, Kind: ']'}}},
	} {
		if got := marks.Marks([]byte(c.b)); !slices.Equal(got, c.want) {
			t.Errorf("Marks(%q): %v, not %v", c.b, got, c.want)
		}
	}
	if l := marks.Marks(nil); len(l) != 0 {
		t.Error("nothing has marks", l)
	}
}

func TestMarks(t *testing.T) {
	for _, b := range texts() {
		if got, want := marks.Marks([]byte(b)), marksOf(b); !slices.Equal(got, want) {
			t.Errorf("Marks(%q): %v, not %v", b, got, want)
		}
	}
}
