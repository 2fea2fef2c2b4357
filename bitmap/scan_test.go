package bitmap_test

import (
	"strings"
	"testing"

	"lorgnette/api"
	"lorgnette/bitmap"
)

func TestScanByHand(t *testing.T) {
	var none api.Carry
	odd, in, both := api.Carry{Odd: true}, api.Carry{In: true}, api.Carry{Odd: true, In: true}
	for _, c := range []struct {
		b      string
		c      api.Carry
		want   api.Masks
		behind api.Carry
	}{
		{`{"a":1}`, none, api.Masks{Quote: 10, In: 6, Open: 1, Close: 64, Colon: 16}, none},
		{"[{]}:, \t\n\r", none, api.Masks{Open: 3, Close: 12, Colon: 16, Comma: 32, Space: 960}, none},
		{"[{]}:, \t\n\r", in, api.Masks{In: 1023}, in},
		{"[{]}:, \t\n\r", odd, api.Masks{Open: 3, Close: 12, Colon: 16, Comma: 32, Space: 960}, none},
		// Bytes that are no marks.
		{"\v\f\x00\x08\x0b\x0c\x0e\x1f\x21\x7f\x85\xa0()<>;.'/", none, api.Masks{}, none},
		// Each carry, over no byte, and over a quote and a backslash.
		{"", none, api.Masks{}, none}, {"", odd, api.Masks{}, odd}, {"", in, api.Masks{}, in}, {"", both, api.Masks{}, both},
		{`"`, none, api.Masks{Quote: 1, In: 1}, in}, {`"`, odd, api.Masks{}, none}, {`"`, in, api.Masks{Quote: 1}, none}, {`"`, both, api.Masks{In: 1}, in},
		{`\`, none, api.Masks{}, odd}, {`\`, odd, api.Masks{}, none}, {`\`, in, api.Masks{In: 1}, both}, {`\`, both, api.Masks{In: 1}, in},
		// Escaped quotes, within strings and outside.
		{`"\""`, none, api.Masks{Quote: 9, In: 7}, none}, {`"\\"`, none, api.Masks{Quote: 9, In: 7}, none}, {`"\\""`, none, api.Masks{Quote: 25, In: 23}, in}, {`\""`, none, api.Masks{Quote: 4, In: 4}, in}, {`\\"`, none, api.Masks{Quote: 4, In: 4}, in}, {`a"\`, none, api.Masks{Quote: 2, In: 6}, both},
		// Outside strings, an escaped mark is a mark.
		{`\[\ \,`, none, api.Masks{Open: 2, Space: 8, Comma: 32}, none},
		// The quote that ends a string, and what stands behind it.
		{`],"] :`, in, api.Masks{Quote: 4, In: 3, Close: 8, Space: 16, Colon: 32}, none},
		{`"":""`, none, api.Masks{Quote: 27, In: 9, Colon: 4}, none},
		// What stands behind the 64 plays no part.
		{strings.Repeat(" ", 64) + "[", odd, api.Masks{Space: full}, none},
		{strings.Repeat(" ", 63) + `\"`, none, api.Masks{Space: full >> 1}, odd},
		{strings.Repeat(" ", 63) + `""`, none, api.Masks{Quote: 1 << 63, In: 1 << 63, Space: full >> 1}, in},
		{strings.Repeat("[", 63) + `""`, in, api.Masks{Quote: 1 << 63, In: full >> 1}, none},
		{strings.Repeat("[", 64) + `""`, in, api.Masks{In: full}, in},
		{strings.Repeat("[", 63) + `"`, both, api.Masks{Quote: 1 << 63, In: full >> 1}, none},
		{strings.Repeat("]", 63), none, api.Masks{Close: full >> 1}, none},
		{strings.Repeat(`\`, 63), in, api.Masks{In: full >> 1}, both},
		{strings.Repeat(`\`, 64), in, api.Masks{In: full}, in},
		{strings.Repeat(`\`, 64), both, api.Masks{In: full}, both},
	} {
		if got, behind := bitmap.Scan([]byte(c.b), c.c); got != c.want || behind != c.behind {
			t.Errorf("Scan(%q, %v): %x, %v, not %x, %v", c.b, c.c, got, behind, c.want, c.behind)
		}
	}
}

func TestScan(t *testing.T) {
	for _, b := range texts() {
		for _, c := range carries() {
			want, wantBehind := scanOf(b, c)
			if got, behind := bitmap.Scan([]byte(b), c); got != want || behind != wantBehind {
				t.Errorf("Scan(%q, %v): %x, %v, not %x, %v", b, c, got, behind, want, wantBehind)
			}
		}
	}
}

// TestScanNothing hands in no byte at all, in both ways.
func TestScanNothing(t *testing.T) {
	for _, b := range [][]byte{nil, {}} {
		for _, c := range carries() {
			if got, behind := bitmap.Scan(b, c); got != (api.Masks{}) || behind != c {
				t.Errorf("Scan(%v): %x, %v", c, got, behind)
			}
		}
	}
}
