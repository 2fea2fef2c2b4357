package dec_test

import (
	"math/big"
	"math/rand"
	"regexp"
	"strings"
	"testing"

	"lorgnette/api"
	"lorgnette/dec"
)

// grammar is what the document says of a number's text.
var grammar = regexp.MustCompile(`^(-?)(0|[1-9][0-9]*)(?:\.([0-9]+))?(?:[eE]([+-]?[0-9]+))?$`)

// parsed is what a text is to be read as.
func parsed(s string) (api.Dec, api.Errno) {
	parts := grammar.FindStringSubmatch(s)
	if parts == nil {
		return api.Dec{}, api.ErrForm
	}
	if len(s) > 1000 {
		return api.Dec{}, api.ErrRange
	}
	size, _ := new(big.Int).SetString(parts[1]+parts[2]+parts[3], 10)
	exp := new(big.Int)
	if parts[4] != "" {
		exp.SetString(parts[4], 10)
	}
	exp.Sub(exp, big.NewInt(int64(len(parts[3]))))
	if size.Sign() != 0 && exp.CmpAbs(big.NewInt(100000)) > 0 { // no 1000 bytes bring that back
		return api.Dec{}, api.ErrRange
	}
	return plain(number{size, int(exp.Int64())})
}

func checkParse(t *testing.T, s string) {
	t.Helper()
	want, wantErr := parsed(s)
	got, err := dec.Parse(s)
	check(t, "Parse of "+s, got, err, want, wantErr)
}

// TestParseAllShort reads every text of at most six signs of those that numbers have, and of one that they haven't.
func TestParseAllShort(t *testing.T) {
	texts := []string{""}
	for range 6 {
		var longer []string
		for _, s := range texts {
			checkParse(t, s)
			for _, sign := range "07-+.eEx" {
				longer = append(longer, s+string(sign))
			}
		}
		texts = longer
	}
}

func TestParse(t *testing.T) {
	for _, c := range []struct {
		s    string
		want api.Dec
	}{
		{"0", api.Dec{}}, {"-0", api.Dec{}}, {"-0.000", api.Dec{}}, {"0e5", api.Dec{}}, {"-0E-5", api.Dec{}}, {"0.0e+30001", api.Dec{}},
		{"7", api.Dec{Limbs: []uint32{7}}}, {"-7", api.Dec{Neg: true, Limbs: []uint32{7}}}, {"10", api.Dec{Limbs: []uint32{1}, Exp: 1}},
		{"-12.50e1", api.Dec{Neg: true, Limbs: []uint32{125}}}, {"0.1", api.Dec{Limbs: []uint32{1}, Exp: -1}}, {"1.50", api.Dec{Limbs: []uint32{15}, Exp: -1}},
		{"1E+2", api.Dec{Limbs: []uint32{1}, Exp: 2}}, {"1e-2", api.Dec{Limbs: []uint32{1}, Exp: -2}}, {"1e0002", api.Dec{Limbs: []uint32{1}, Exp: 2}}, {"1e-0", api.Dec{Limbs: []uint32{1}}},
		{"1234567890123.456", api.Dec{Limbs: []uint32{890123456, 1234567}, Exp: -3}}, {"5000000000", api.Dec{Limbs: []uint32{5}, Exp: 9}}, {"-0.001", api.Dec{Neg: true, Limbs: []uint32{1}, Exp: -3}},
	} {
		got, err := dec.Parse(c.s)
		check(t, "Parse of "+c.s, got, err, c.want, api.OK)
	}
}

// TestParseWrongForms asks for each form that isn't one, signs beside the digits among them.
func TestParseWrongForms(t *testing.T) {
	for _, s := range []string{
		"", "-", "--1", "+1", "+", "-+1", "e", "e5", ".", "-.", ".5", "-.5", "-e1",
		"00", "01", "-01", "007", "0x1", "00.1",
		"1.", "-0.", "1..2", "1.2.3", "1.-2", "1.+2", "1.e5", "0.e",
		"1e", "1E", "1e+", "1e-", "1e+-1", "1e--1", "1ee1", "1e1e1", "1e1.5", "1e.5", "1e1.", "1.5e", "1e1-", "1e1+",
		"1-", "1+", "1-1", "0-0", "1 ", " 1", "1\n", "\t1", "1,0", "1_000", "1\x00", "\x001", "1/", "1:", "/", ":", "1./", "1.:", "1e/", "1e:",
		"NaN", "Infinity", "-Infinity", "null", "true", "\"1\"", "[1]", "1f", "1n", "0b1", "0o7",
		"\xff", "1\xff", "1\x80", "-\xc3", "1.\xb1", "1e\xb1",
		"\u0660", "1\u0661", "\uff11", "1.\uff11", "1e\uff11", "\u22121", "1\u0130", "\u0131", "1\u012e5", "1\u01652", "1e\u012d1", "1\U00010030",
	} {
		got, err := dec.Parse(s)
		check(t, "Parse of "+s, got, err, api.Dec{}, api.ErrForm)
		if _, err := parsed(s); err != api.ErrForm {
			t.Errorf("%q is a form", s)
		}
	}
}

func TestParseAtLimits(t *testing.T) {
	zeros := func(n int) string { return strings.Repeat("0", n) }
	nine := func(n int) string { return strings.Repeat("9", n) }
	for s, want := range map[string]api.Errno{
		"1e10000": api.OK, "1e10001": api.ErrRange, "-9.5E+10000": api.OK, "10e10000": api.ErrRange, "0.1e10001": api.OK, "0.01e10003": api.ErrRange,
		"1e-10000": api.OK, "1e-10001": api.ErrRange, "-10e-10001": api.OK, "0.1e-10000": api.ErrRange, "9.9e-10000": api.OK, "0.99e-10000": api.ErrRange,
		nine(400): api.OK, nine(401): api.ErrRange, nine(400) + "0": api.OK, nine(400) + zeros(600): api.OK, "-" + nine(400) + zeros(599): api.OK,
		nine(200) + "." + nine(200): api.OK, nine(200) + "." + nine(201): api.ErrRange, "0." + zeros(500) + nine(400): api.OK, "0." + nine(401): api.ErrRange,
		nine(400) + "." + zeros(599): api.OK, nine(400) + "." + zeros(600): api.ErrRange, nine(400) + "." + zeros(598) + "1": api.ErrRange,
		"1." + zeros(998): api.OK, "1." + zeros(999): api.ErrRange, "0." + zeros(998): api.OK, "0." + zeros(999): api.ErrRange, "-0." + zeros(997): api.OK, "-0." + zeros(998): api.ErrRange,
		"1" + zeros(999): api.OK, "1" + zeros(1000): api.ErrRange, "1e" + zeros(998): api.OK, "1e" + zeros(999): api.ErrRange, "1e" + zeros(997) + "5": api.OK,
		"0e" + nine(998): api.OK, "0e" + nine(999): api.ErrRange, "0e-" + nine(997): api.OK, "1e" + nine(998): api.ErrRange, "1e-" + nine(997): api.ErrRange,
		"0." + zeros(989) + "1e10990": api.OK, "0." + zeros(989) + "1e10991": api.ErrRange, "1" + zeros(900) + "e-10900": api.OK, "1" + zeros(900) + "e-10901": api.ErrRange,
		"1e18446744073709551616": api.ErrRange, "1e-18446744073709551616": api.ErrRange, "1e9223372036854775808": api.ErrRange, "1e4294967296": api.ErrRange, "1e30001": api.ErrRange, "1e-30001": api.ErrRange,
		"1" + zeros(1000) + "x": api.ErrForm, "0" + zeros(1000): api.ErrForm, "-" + zeros(1001): api.ErrForm, "1." + zeros(999) + ".": api.ErrForm, "1e" + zeros(999) + "e": api.ErrForm, nine(1001) + ".": api.ErrForm, nine(1001) + "e": api.ErrForm,
	} {
		if _, err := parsed(s); err != want {
			t.Errorf("%s is to be %d", s, err)
		}
		checkParse(t, s)
	}
}

// longText is a number's text of more digits than all short ones have, the same at each run.
func longText(chance *rand.Rand) string {
	digits := func(most int) string {
		text := make([]byte, 1+chance.Intn(most))
		for i := range text {
			text[i] = "0001234567899"[chance.Intn(13)]
		}
		return string(text)
	}
	text := []string{"", "-"}[chance.Intn(2)] + []string{"0", "1" + digits(30), "9" + digits(390)}[chance.Intn(3)]
	if chance.Intn(2) == 0 {
		text += "." + digits([]int{3, 30, 400}[chance.Intn(3)])
	}
	if chance.Intn(2) == 0 {
		text += []string{"e", "E"}[chance.Intn(2)] + []string{"", "+", "-"}[chance.Intn(3)] + digits(6)
	}
	return text
}

// TestParseLong reads longer texts, as they are, and with one byte another one.
func TestParseLong(t *testing.T) {
	chance := rand.New(rand.NewSource(17))
	for range 3000 {
		s := longText(chance)
		checkParse(t, s)
		at := chance.Intn(len(s))
		checkParse(t, s[:at]+string("0-+.eE \xff"[chance.Intn(8)])+s[at+1:])
		checkParse(t, s[:at])
	}
}
