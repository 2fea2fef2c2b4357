package limb_test

import (
	"math"
	"math/big"
	"slices"
	"strings"
	"testing"

	"lorgnette/api"
	"lorgnette/limb"
)

func TestText(t *testing.T) {
	for _, l := range singles() {
		if got, want := limb.Text(l), worth(l).String(); got != want {
			t.Errorf("Text(%v): %s, not %s", l, got, want)
		}
	}
	for _, c := range []struct {
		l    []uint32
		want string
	}{
		{nil, "0"},
		{[]uint32{0, 0}, "0"},
		{[]uint32{5, 2}, "2000000005"},
		{[]uint32{0, 0, 1}, "1000000000000000000"},
		{[]uint32{12, 0, 0}, "12"},
		{[]uint32{math.MaxUint32}, "4294967295"},
	} {
		if got := limb.Text(c.l); got != c.want {
			t.Errorf("Text(%v): %s, not %s", c.l, got, c.want)
		}
	}
}

func TestDigits(t *testing.T) {
	for _, l := range singles() {
		want := len(worth(l).String())
		if worth(l).Sign() == 0 {
			want = 0
		}
		if got := limb.Digits(l); got != want {
			t.Errorf("Digits(%v): %d, not %d", l, got, want)
		}
	}
	for n := range 30 {
		power := plain(tenTo(n))
		if got := limb.Digits(power); got != n+1 {
			t.Errorf("digits of ten to the %d: %d", n, got)
		}
		below, _ := limb.Sub(power, []uint32{1})
		if got := limb.Digits(below); got != n {
			t.Errorf("digits of one below ten to the %d: %d", n, got)
		}
	}
}

func TestParse(t *testing.T) {
	digits := "98765432101234567890000000000123456789"
	for from := range len(digits) {
		for to := from + 1; to <= len(digits); to++ {
			s := digits[from:to]
			number, _ := new(big.Int).SetString(s, 10)
			if got, err := limb.Parse(s); !slices.Equal(got, plain(number)) || err != api.OK {
				t.Errorf("Parse(%s): %v, %d", s, got, err)
			}
		}
	}
	for _, c := range []struct {
		s    string
		want []uint32
	}{
		{"0", nil},
		{strings.Repeat("0", 40), nil},
		{"007", []uint32{7}},
		{strings.Repeat("0", 40) + "1000000000", []uint32{0, 1}},
		{"999999999", []uint32{999999999}},
	} {
		if got, err := limb.Parse(c.s); !slices.Equal(got, c.want) || err != api.OK {
			t.Errorf("Parse(%s): %v, %d, not %v", c.s, got, err, c.want)
		}
	}
}

func TestParseOfNoNumber(t *testing.T) {
	for _, s := range []string{"", " ", "-", "+1", "-1", " 1", "1 ", "1.0", "1e3", "0x1", "1_000", "12345678901234567890/", ":123456789", "1\x00", "\xff", "٣", "１"} {
		if got, err := limb.Parse(s); len(got) != 0 || err != api.ErrForm {
			t.Errorf("Parse(%q): %v, %d", s, got, err)
		}
	}
	for b := range 256 {
		s := "1" + string([]byte{byte(b)}) + "1"
		want := api.ErrForm
		if b >= '0' && b <= '9' {
			want = api.OK
		}
		if got, err := limb.Parse(s); err != want || err != api.OK && len(got) != 0 {
			t.Errorf("Parse(%q): %v, %d", s, got, err)
		}
	}
}
