package dec_test

import (
	"strconv"
	"strings"
	"testing"

	"lorgnette/api"
	"lorgnette/dec"
)

func TestText(t *testing.T) {
	for _, c := range []struct {
		d    api.Dec
		want string
	}{
		{api.Dec{}, "0"}, {api.Dec{Limbs: []uint32{7}}, "7"}, {api.Dec{Neg: true, Limbs: []uint32{125}}, "-125"}, {api.Dec{Limbs: []uint32{125}, Exp: -2}, "1.25"},
		{api.Dec{Limbs: []uint32{5, 12}, Exp: -1}, "1200000000.5"}, {api.Dec{Neg: true, Limbs: []uint32{5}, Exp: -1}, "-0.5"}, {api.Dec{Limbs: []uint32{5}, Exp: -3}, "0.005"}, {api.Dec{Limbs: []uint32{125}, Exp: -3}, "0.125"},
		{api.Dec{Limbs: []uint32{12}, Exp: 3}, "12000"}, {api.Dec{Limbs: []uint32{1}, Exp: 20}, "100000000000000000000"}, {api.Dec{Limbs: []uint32{1}, Exp: 21}, "1e21"},
		{api.Dec{Limbs: []uint32{12}, Exp: 19}, "120000000000000000000"}, {api.Dec{Limbs: []uint32{12}, Exp: 20}, "1.2e21"}, {api.Dec{Neg: true, Limbs: []uint32{1}, Exp: 21}, "-1e21"},
		{api.Dec{Limbs: []uint32{345678901, 456789012, 123}}, "123456789012345678901"}, {api.Dec{Neg: true, Limbs: []uint32{456789012, 567890123, 1234}}, "-1.234567890123456789012e21"},
		{api.Dec{Limbs: []uint32{567890125, 678901234, 12345}, Exp: -1}, "1234567890123456789012.5"},
		{api.Dec{Limbs: []uint32{1}, Exp: -7}, "0.0000001"}, {api.Dec{Limbs: []uint32{1}, Exp: -8}, "1e-8"}, {api.Dec{Limbs: []uint32{12}, Exp: -8}, "0.00000012"}, {api.Dec{Limbs: []uint32{12}, Exp: -9}, "1.2e-8"},
		{api.Dec{Neg: true, Limbs: []uint32{123}, Exp: -9}, "-0.000000123"}, {api.Dec{Neg: true, Limbs: []uint32{123}, Exp: -10}, "-1.23e-8"},
		{api.Dec{Limbs: []uint32{1}, Exp: 10000}, "1e10000"}, {api.Dec{Neg: true, Limbs: []uint32{15}, Exp: -10001}, "-1.5e-10000"},
		{api.Dec{Limbs: nines(400), Exp: -399}, "9." + strings.Repeat("9", 399)}, {api.Dec{Limbs: nines(400), Exp: -1}, strings.Repeat("9", 399) + ".9"}, {api.Dec{Limbs: nines(400)}, "9." + strings.Repeat("9", 399) + "e399"},
		{api.Dec{Limbs: nines(400), Exp: -406}, "0.000000" + strings.Repeat("9", 400)}, {api.Dec{Limbs: nines(400), Exp: -407}, "9." + strings.Repeat("9", 399) + "e-8"},
		{api.Dec{Limbs: []uint32{0, 0, 1000000000}, Exp: -30}, "0.001"}, {api.Dec{Neg: true, Limbs: []uint32{100}, Exp: -2}, "-1"}, {api.Dec{Limbs: []uint32{10}, Exp: 20}, "1e21"}, {api.Dec{Limbs: []uint32{4000000000, 0}, Exp: 11}, "400000000000000000000"},
	} {
		if got, err := dec.Text(c.d); got != c.want || err != api.OK {
			t.Errorf("Text%s: %s, %d, not %s", show(c.d), got, err, c.want)
		}
	}
	for _, d := range zeros() {
		if got, err := dec.Text(d); got != "0" || err != api.OK {
			t.Errorf("Text%s: %s, %d", show(d), got, err)
		}
	}
}

// written is a number's text, laid down sign by sign from its highest power to its lowest.
func written(d api.Dec) string {
	p, _ := plain(worth(d))
	m := strings.TrimPrefix(worth(api.Dec{Limbs: p.Limbs}).size.String(), "-")
	h, e := p.Exp+len(m)-1, p.Exp
	digitAt := func(power int) string {
		if at := h - power; at >= 0 && at < len(m) {
			return m[at : at+1]
		}
		return "0"
	}
	var text strings.Builder
	if p.Neg {
		text.WriteString("-")
	}
	if e >= 0 && h <= 20 || e < 0 && h >= -7 {
		for power := max(h, 0); power >= min(e, 0); power-- {
			if power == -1 {
				text.WriteString(".")
			}
			text.WriteString(digitAt(power))
		}
		return text.String()
	}
	for power := h; power >= e; power-- {
		if power == h-1 {
			text.WriteString(".")
		}
		text.WriteString(digitAt(power))
	}
	return text.String() + "e" + strconv.Itoa(h)
}

func TestTextOfMany(t *testing.T) {
	for _, d := range append(edges(), some(4, 3000)...) {
		want, wantErr := "", taken(d)
		if wantErr == api.OK {
			want = written(d)
		}
		if got, err := dec.Text(d); got != want || err != wantErr {
			t.Errorf("Text%s: %s, %d, not %s, %d", show(d), got, err, want, wantErr)
		}
	}
}

// TestTextBesideHeads writes numbers of few and of many digits at each power about those at which the way of writing changes.
func TestTextBesideHeads(t *testing.T) {
	for _, digits := range []string{"1", "12", "123456789", "1234567891", "123456789012345678901", "1234567890123456789012", strings.Repeat("7", 40)} {
		for exp := -60; exp <= 30; exp++ {
			for _, neg := range []bool{false, true} {
				d := api.Dec{Neg: neg, Limbs: limbsOf(digits), Exp: exp}
				if got, err := dec.Text(d); got != written(d) || err != api.OK {
					t.Errorf("Text%s: %s, %d, not %s", show(d), got, err, written(d))
				}
			}
		}
	}
}
