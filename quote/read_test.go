package quote_test

import (
	"fmt"
	"strings"
	"testing"

	"lorgnette/api"
	"lorgnette/quote"
)

func readOf(b string) answer {
	s, n, err := quote.Read([]byte(b))
	return answer{s, n, err}
}

func checkRead(t *testing.T, b string) {
	t.Helper()
	if got, want := readOf(b), told(t, b); got != want {
		t.Errorf("Read(%q): %v, not %v", b, got, want)
	}
}

func TestReadByHand(t *testing.T) {
	for b, want := range map[string]answer{
		`""`:                    {"", 2, api.OK},
		`"abc"`:                 {"abc", 5, api.OK},
		`"\"\\\/\b\f\n\r\t"`:    {"\"\\/\b\f\n\r\t", 18, api.OK},
		`"/ ~` + "\x7f" + `"`:   {"/ ~\x7f", 6, api.OK},
		`"\u0041\u00e4\u20AC"`:  {"Aä€", 20, api.OK},
		`"\uabcd\uABCD\uef09"`:  {"\uabcd\uabcd\uef09", 20, api.OK},
		`"\u00411"`:             {"A1", 9, api.OK},
		`"\u0000\u001f\u007f"`:  {"\x00\x1f\x7f", 20, api.OK},
		`"\u0022\u005c"`:        {`"\`, 14, api.OK},
		`"\ufffd\uffff"`:        {replaced + "\uffff", 14, api.OK},
		"\"\u0080\u07ff\"":      {"\u0080\u07ff", 6, api.OK},
		"\"\u0800\uffff\"":      {"\u0800\uffff", 8, api.OK},
		"\"\ud7ff\ue000\"":      {"\ud7ff\ue000", 8, api.OK},
		"\"𐀀\U0010ffff\"":       {"𐀀\U0010ffff", 10, api.OK},
		`"` + replaced + `"`:    {replaced, 5, api.OK},
		`"a"b"`:                 {"a", 3, api.OK},
		`"a"` + "\xff":          {"a", 3, api.OK},
		`"a"\`:                  {"a", 3, api.OK},
		`"\""" `:                {`"`, 4, api.OK},
		`"\\"\"`:                {`\`, 4, api.OK},
		`"\ud834\udd1e"`:        {"𝄞", 14, api.OK},
		`"\uD834\uDd1E"`:        {"𝄞", 14, api.OK},
		`"\ud800\udc00"`:        {"𐀀", 14, api.OK},
		`"\udbff\udfff"`:        {"\U0010ffff", 14, api.OK},
		`"\ud834"`:              {replaced, 8, api.OK},
		`"\udd1e"`:              {replaced, 8, api.OK},
		`"\ud834x"`:             {replaced + "x", 9, api.OK},
		`"\udd1e\ud834"`:        {replaced + replaced, 14, api.OK},
		`"\ud834\ud834\udd1e"`:  {replaced + "𝄞", 20, api.OK},
		`"\ud834\udd1e\udd1e"`:  {"𝄞" + replaced, 20, api.OK},
		`"\ud834\u0041"`:        {replaced + "A", 14, api.OK},
		`"\ud834\n\udd1e"`:      {replaced + "\n" + replaced, 16, api.OK},
		`"\ud834a\udd1e"`:       {replaced + "a" + replaced, 15, api.OK},
		`"\ud834ä\udd1e"`:       {replaced + "ä" + replaced, 16, api.OK},
		`"\ud834\\udd1e"`:       {replaced + `\udd1e`, 15, api.OK},
		`"\ud834udd1e"`:         {replaced + "udd1e", 13, api.OK},
		`"\ud834"\udd1e"`:       {replaced, 8, api.OK},
		"":                      {"", 0, api.ErrShort},
		`"`:                     {"", 1, api.ErrShort},
		`"a`:                    {"", 2, api.ErrShort},
		`"aä`:                   {"", 4, api.ErrShort},
		`"\`:                    {"", 2, api.ErrShort},
		`"\"`:                   {"", 3, api.ErrShort},
		`"\n`:                   {"", 3, api.ErrShort},
		`"\u`:                   {"", 3, api.ErrShort},
		`"\u004`:                {"", 6, api.ErrShort},
		`"\u0041`:               {"", 7, api.ErrShort},
		`"\ud834\u`:             {"", 9, api.ErrShort},
		`"\ud834\`:              {"", 8, api.ErrShort},
		`"\ud834\udd1`:          {"", 12, api.ErrShort},
		"\"a\xc3":               {"", 3, api.ErrShort},
		"\"a\xe2\x82":           {"", 4, api.ErrShort},
		"\"\xf0\x9f\x98":        {"", 4, api.ErrShort},
		"\"\xe0":                {"", 2, api.ErrShort},
		"\"\xed":                {"", 2, api.ErrShort},
		"\"\xf4\x8f":            {"", 3, api.ErrShort},
		"a":                     {"", 0, api.ErrForm},
		" \"a\"":                {"", 0, api.ErrForm},
		`\"a"`:                  {"", 0, api.ErrForm},
		"\x00\"a\"":             {"", 0, api.ErrForm},
		"\x7f":                  {"", 0, api.ErrForm},
		"\x80":                  {"", 0, api.ErrBytes},
		"ä":                     {"", 0, api.ErrBytes},
		"\xe2":                  {"", 0, api.ErrBytes}, // no text in quotes begins with it
		"\"a\x1f\"":             {"", 2, api.ErrForm},
		"\"a\nb\"":              {"", 2, api.ErrForm},
		"\"\x00":                {"", 1, api.ErrForm},
		`"\x"`:                  {"", 2, api.ErrForm},
		`"\U0041"`:              {"", 2, api.ErrForm},
		`"\u"`:                  {"", 3, api.ErrForm},
		`"\u12"`:                {"", 5, api.ErrForm},
		`"\u12g4"`:              {"", 5, api.ErrForm},
		`"\ud834\x"`:            {"", 8, api.ErrForm},
		`"\ud834\udd1g"`:        {"", 12, api.ErrForm},
		"\"\\\n\"":              {"", 2, api.ErrForm},
		"\"\\\xff\"":            {"", 2, api.ErrBytes},
		"\"\\ä\"":               {"", 2, api.ErrBytes},
		"\"\\\xe2":              {"", 2, api.ErrBytes}, // no piece goes on with it
		"\"\\u\xe2":             {"", 3, api.ErrBytes},
		"\"\\u00ä0\"":           {"", 5, api.ErrBytes},
		"\"a\xff\"":             {"", 2, api.ErrBytes},
		"\"\x80":                {"", 1, api.ErrBytes},
		"\"a\xe2\"":             {"", 2, api.ErrBytes},
		"\"a\xe2\x82\"":         {"", 2, api.ErrBytes},
		"\"aä\xf0\x9f\x98\n\"":  {"", 4, api.ErrBytes},
		"\"\xe2\x82\xe2\x82":    {"", 1, api.ErrBytes},
		"\"\xc0\x80\"":          {"", 1, api.ErrBytes},
		"\"\xe0\x9f":            {"", 1, api.ErrBytes},
		"\"\xed\xa0":            {"", 1, api.ErrBytes},
		"\"\xf0\x8f\xbf":        {"", 1, api.ErrBytes},
		"\"\xf4\x90":            {"", 1, api.ErrBytes},
		"\"\xf5":                {"", 1, api.ErrBytes},
		"\"\\ud834\xed\xb4\x9e": {"", 7, api.ErrBytes},
	} {
		if got := readOf(b); got != want {
			t.Errorf("Read(%q): %v, not %v", b, got, want)
		}
	}
}

func TestRead(t *testing.T) {
	for _, b := range quotedTexts() {
		checkRead(t, b)
	}
}

// TestReadAllBytes asks for each byte at each place where one may stand.
func TestReadAllBytes(t *testing.T) {
	for c := range 256 {
		for _, ahead := range []string{"", `"`, `"a`, `"\`, `"\u`, `"\u0`, `"\uD8`, `"\u00e`, `"\ud834`, `"\ud834\`, `"\ud834\u`, `"\ud834\ud`, "\"\xc3", "\"\xe2\x82", "\"\xf0\x9f\x98", `""`} {
			for _, behind := range []string{"", `"`, `0"`, `041"`, `0041"`, "\x80\"", "\x80\x80\"", "\xff"} {
				checkRead(t, ahead+string([]byte{byte(c)})+behind)
			}
		}
	}
}

// TestReadBordersOfBytes asks for all texts of three bytes that stand beside the borders of what a code point's bytes may be, whole and cut off.
func TestReadBordersOfBytes(t *testing.T) {
	firsts := []byte{127, 128, 191, 192, 193, 194, 223, 224, 225, 236, 237, 238, 239, 240, 241, 243, 244, 245, 247, 248, 255}
	others := []byte{31, 34, 65, 92, 127, 128, 143, 144, 159, 160, 191, 192, 194, 224, 240, 255}
	for _, first := range firsts {
		for _, second := range others {
			checkRead(t, `"`+string([]byte{first, second}))
			for _, third := range others {
				checkRead(t, `"`+string([]byte{first, second, third}))
				checkRead(t, `"`+string([]byte{first, second, third, 128})+`"`)
			}
		}
	}
}

// standFor is what pieces of these numbers stand for, as the document tells it.
func standFor(units []int) string {
	var s strings.Builder
	for len(units) > 0 {
		h := units[0]
		units = units[1:]
		switch {
		case h >= 55296 && h <= 56319 && len(units) > 0 && units[0] >= 56320 && units[0] <= 57343:
			s.WriteRune(rune(65536 + 1024*(h-55296) + units[0] - 56320))
			units = units[1:]
		case h >= 55296 && h <= 57343:
			s.WriteString(replaced)
		default:
			s.WriteRune(rune(h))
		}
	}
	return s.String()
}

func checkUnits(t *testing.T, units ...int) {
	t.Helper()
	want := standFor(units)
	for _, form := range []string{`\u%04x`, `\u%04X`} {
		b := `"`
		for _, h := range units {
			b += fmt.Sprintf(form, h)
		}
		b += `"`
		if got := readOf(b); got != (answer{want, len(b), api.OK}) {
			t.Errorf("Read(%q): %v, not %q", b, got, want)
		}
	}
}

// TestReadAllUnits asks for pieces of all numbers of four digits.
func TestReadAllUnits(t *testing.T) {
	for h := range 65536 {
		checkUnits(t, h)
	}
}

// TestReadUnitsInARow asks for all that three pieces may be beside the borders of pairs.
func TestReadUnitsInARow(t *testing.T) {
	edges := []int{0, 65, 55295, 55296, 55297, 55348, 56318, 56319, 56320, 56321, 56606, 57342, 57343, 57344, 65533, 65535}
	for _, h := range edges {
		for _, k := range edges {
			checkUnits(t, h, k)
			for _, l := range edges {
				checkUnits(t, h, k, l)
			}
		}
	}
}

// TestReadBetweenUnits lays other pieces, and what ends a text, between two that are one code point.
func TestReadBetweenUnits(t *testing.T) {
	for _, part := range partsOfTexts() {
		checkRead(t, `"\ud834`+part+`\udd1e"`)
		checkRead(t, `"\ud834`+part)
		checkRead(t, `"\ud834\u`+part+`"`)
	}
}

// TestReadCutOff cuts texts off at each place.
func TestReadCutOff(t *testing.T) {
	for _, whole := range []string{`"a\n\/ä€😀\u0041\ud834\udd1e\ud834\\"`, "\"\xe0\xa0\x80\xed\x9f\xbf\xf0\x90\x80\x80\xf4\x8f\xbf\xbf\""} {
		for n := range len(whole) {
			if got := readOf(whole[:n]); got != (answer{"", n, api.ErrShort}) {
				t.Errorf("Read(%q): %v", whole[:n], got)
			}
		}
		checkRead(t, whole)
	}
}

func TestReadLongTexts(t *testing.T) {
	inner := strings.Repeat("aä€😀", 50000)
	if got := readOf(`"` + inner + `"x`); got != (answer{inner, len(inner) + 2, api.OK}) {
		t.Errorf("%d bytes: %d, %d", len(inner), got.n, got.err)
	}
	if got := readOf(`"` + strings.Repeat(`\ud834`, 100000)); got != (answer{"", 600001, api.ErrShort}) {
		t.Errorf("%d, %d", got.n, got.err)
	}
}
