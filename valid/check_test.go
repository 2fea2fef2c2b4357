package valid_test

import (
	"math"
	"slices"
	"strings"
	"testing"

	"lorgnette/api"
	"lorgnette/valid"
)

// told is what Check tells: places from and to in turn, how many bytes could begin a stream, and why they are none.
type told struct {
	places  []int
	at, why int
}

func checkOf(b string, depth int) told {
	spans, fault := valid.Check([]byte(b), depth)
	w := told{at: fault.At, why: fault.Why}
	for _, s := range spans {
		w.places = append(w.places, s.From, s.To)
	}
	return w
}

func (w told) is(o told) bool {
	return slices.Equal(w.places, o.places) && w.at == o.at && w.why == o.why
}

func holdAll(t *testing.T, depth int, all map[string]told) {
	t.Helper()
	for b, want := range all {
		if got := checkOf(b, depth); !got.is(want) {
			t.Errorf("Check(%s, %d): %v, not %v", name(b), depth, got, want)
		}
	}
}

func TestStreamsByHand(t *testing.T) {
	holdAll(t, 9, map[string]told{
		"":                              {nil, 0, api.WhyNone},
		" ":                             {nil, 1, api.WhyNone},
		" \t\n\r":                       {nil, 4, api.WhyNone},
		"[1] true":                      {[]int{0, 3, 4, 8}, 8, api.WhyNone},
		"null":                          {[]int{0, 4}, 4, api.WhyNone},
		"false\nnull\ttrue\r":           {[]int{0, 5, 6, 10, 11, 15}, 16, api.WhyNone},
		"0":                             {[]int{0, 1}, 1, api.WhyNone},
		" 1  2 ":                        {[]int{1, 2, 4, 5}, 6, api.WhyNone},
		"-0 -12.50e+07 1E5 0e-00 10":    {[]int{0, 2, 3, 13, 14, 17, 18, 23, 24, 26}, 26, api.WhyNone},
		`"" "a" "\"[" "ä"`:              {[]int{0, 2, 3, 6, 7, 12, 13, 17}, 17, api.WhyNone},
		`"\ud834" "\u00e4"`:             {[]int{0, 8, 9, 17}, 17, api.WhyNone},
		"\"\x7f\"":                      {[]int{0, 3}, 3, api.WhyNone},
		"[] {}":                         {[]int{0, 2, 3, 5}, 5, api.WhyNone},
		"[ \n] {\t\r}":                  {[]int{0, 4, 5, 9}, 9, api.WhyNone},
		`[1,[2,[]],"]"]`:                {[]int{0, 14}, 14, api.WhyNone},
		"[ 1 , 2 ]":                     {[]int{0, 9}, 9, api.WhyNone},
		`{"a":1}`:                       {[]int{0, 7}, 7, api.WhyNone},
		`{ "a" : { } , "a" : [ ] }`:     {[]int{0, 25}, 25, api.WhyNone},
		`{"":{"}":null}}`:               {[]int{0, 15}, 15, api.WhyNone},
		`[{"a":[{"b":[[]]}]},{}]`:       {[]int{0, 23}, 23, api.WhyNone},
		"1" + strings.Repeat("0", 2000): {[]int{0, 2001}, 2001, api.WhyNone},
		"1e99999":                       {[]int{0, 7}, 7, api.WhyNone},
	})
}

func TestWrongBytesByHand(t *testing.T) {
	holdAll(t, 9, map[string]told{
		// Between texts.
		"12x": {nil, 2, api.WhyByte}, "[1]2": {[]int{0, 3}, 3, api.WhyByte}, "truex": {[]int{0, 4}, 4, api.WhyByte}, `""""`: {[]int{0, 2}, 2, api.WhyByte}, "nullnull": {[]int{0, 4}, 4, api.WhyByte}, "[][]": {[]int{0, 2}, 2, api.WhyByte}, "{}[": {[]int{0, 2}, 2, api.WhyByte}, "1[": {nil, 1, api.WhyByte}, `1"a"`: {nil, 1, api.WhyByte}, "1,2": {nil, 1, api.WhyByte}, "1-2": {nil, 1, api.WhyByte}, "1 2x": {[]int{0, 1}, 3, api.WhyByte}, "1 x": {[]int{0, 1}, 2, api.WhyByte}, "1 \v": {[]int{0, 1}, 2, api.WhyByte}, "1\x00": {nil, 1, api.WhyByte}, "1\f2": {nil, 1, api.WhyByte}, "1\u00a0": {nil, 1, api.WhyByte}, "\ufeff1": {nil, 0, api.WhyByte}, "\xff": {nil, 0, api.WhyByte}, "\x80": {nil, 0, api.WhyByte}, "true]": {[]int{0, 4}, 4, api.WhyByte}, "]": {nil, 0, api.WhyByte}, " }": {nil, 1, api.WhyByte}, ",": {nil, 0, api.WhyByte}, ":": {nil, 0, api.WhyByte}, "'a'": {nil, 0, api.WhyByte}, "/": {nil, 0, api.WhyByte}, `\`: {nil, 0, api.WhyByte}, "[1] 2 x": {[]int{0, 3, 4, 5}, 6, api.WhyByte},
		// Words.
		"nul ": {nil, 3, api.WhyByte}, "nuLl": {nil, 2, api.WhyByte}, "trux": {nil, 3, api.WhyByte}, "fals[": {nil, 4, api.WhyByte}, "True": {nil, 0, api.WhyByte}, "NaN": {nil, 0, api.WhyByte}, "nan": {nil, 1, api.WhyByte}, "nUll": {nil, 1, api.WhyByte},
		// Numbers.
		"01": {nil, 1, api.WhyByte}, "-01": {nil, 2, api.WhyByte}, "00": {nil, 1, api.WhyByte}, "-x": {nil, 1, api.WhyByte}, "--1": {nil, 1, api.WhyByte}, "- 1": {nil, 1, api.WhyByte}, "+1": {nil, 0, api.WhyByte}, ".5": {nil, 0, api.WhyByte}, "1. ": {nil, 2, api.WhyByte}, "1.e5": {nil, 2, api.WhyByte}, "1.5.": {nil, 3, api.WhyByte}, "1e ": {nil, 2, api.WhyByte}, "1ee": {nil, 2, api.WhyByte}, "1e+-": {nil, 3, api.WhyByte}, "1e1.": {nil, 3, api.WhyByte}, "1e5e": {nil, 3, api.WhyByte}, "0x1": {nil, 1, api.WhyByte}, "1_0": {nil, 1, api.WhyByte}, "-.5": {nil, 1, api.WhyByte}, "-Infinity": {nil, 1, api.WhyByte}, "1:": {nil, 1, api.WhyByte}, "1/": {nil, 1, api.WhyByte},
		// Texts in quotes.
		"\"a\x01\"": {nil, 2, api.WhyByte}, "\"\n\"": {nil, 1, api.WhyByte}, `"\x"`: {nil, 2, api.WhyByte}, `"\u12g4"`: {nil, 5, api.WhyByte}, `1 "\U`: {[]int{0, 1}, 4, api.WhyByte}, `"\ud834\x"`: {nil, 8, api.WhyByte}, "\"a\xff\"": {nil, 2, api.WhyByte}, "\"\\ä\"": {nil, 2, api.WhyByte},
		// Arrays.
		"[1,]": {nil, 3, api.WhyByte}, "[,": {nil, 1, api.WhyByte}, "[1 2]": {nil, 3, api.WhyByte}, "[}": {nil, 1, api.WhyByte}, "[1}": {nil, 2, api.WhyByte}, "[1:": {nil, 2, api.WhyByte}, "[[]}": {nil, 3, api.WhyByte}, "[[]]]": {[]int{0, 4}, 4, api.WhyByte}, "[01]": {nil, 2, api.WhyByte}, "[1.]": {nil, 3, api.WhyByte}, "[ x": {nil, 2, api.WhyByte}, "[true,]": {nil, 6, api.WhyByte}, "[1,,2]": {nil, 3, api.WhyByte}, `["a""b"]`: {nil, 4, api.WhyByte}, `["a":1]`: {nil, 4, api.WhyByte}, "[][": {[]int{0, 2}, 2, api.WhyByte}, "[nul]": {nil, 4, api.WhyByte}, "[\xe2": {nil, 1, api.WhyByte}, "[[1]2": {nil, 4, api.WhyByte},
		// Objects.
		"{1:2}": {nil, 1, api.WhyByte}, `{"a"}`: {nil, 4, api.WhyByte}, "{]": {nil, 1, api.WhyByte}, "{,": {nil, 1, api.WhyByte}, "{:": {nil, 1, api.WhyByte}, "{[": {nil, 1, api.WhyByte}, "{{": {nil, 1, api.WhyByte}, "{null:": {nil, 1, api.WhyByte}, "{a:1}": {nil, 1, api.WhyByte}, `{"a",`: {nil, 4, api.WhyByte}, `{"a" "b"`: {nil, 5, api.WhyByte}, `{"a"::`: {nil, 5, api.WhyByte}, `{"a":}`: {nil, 5, api.WhyByte}, `{"a":,`: {nil, 5, api.WhyByte}, `{"a":1,}`: {nil, 7, api.WhyByte}, `{"a":1,2`: {nil, 7, api.WhyByte}, `{"a":1:`: {nil, 6, api.WhyByte}, `{"a":1]`: {nil, 6, api.WhyByte}, `{"a":1 "b"`: {nil, 7, api.WhyByte}, `{"a":1,,`: {nil, 7, api.WhyByte}, `{"a":[}`: {nil, 6, api.WhyByte}, `[{]`: {nil, 2, api.WhyByte}, `{"a":{}]`: {nil, 7, api.WhyByte}, `{"a":1,[`: {nil, 7, api.WhyByte}, `{"a":1,{`: {nil, 7, api.WhyByte}, `{"a"[`: {nil, 4, api.WhyByte}, `{"a":1[`: {nil, 6, api.WhyByte}, "{\"\xff": {nil, 2, api.WhyByte}, `{"\x`: {nil, 3, api.WhyByte}, `{"a":x`: {nil, 5, api.WhyByte}, `{}}`: {[]int{0, 2}, 2, api.WhyByte},
	})
}

// TestCodePointsByHand asks where the bytes of one go wrong, and where they end too early.
func TestCodePointsByHand(t *testing.T) {
	holdAll(t, 9, map[string]told{
		"\"a\xe2\x82\"": {nil, 2, api.WhyByte}, "\"a\xe2\x82x": {nil, 2, api.WhyByte}, "\"\xf0\x9f\x98 ": {nil, 1, api.WhyByte}, "\"\xed\xa0\x80\"": {nil, 1, api.WhyByte}, "\"\xc0\x80\"": {nil, 1, api.WhyByte}, "\"ä\xe0\x9f\xbf\"": {nil, 3, api.WhyByte}, "\"\xf4\x90": {nil, 1, api.WhyByte}, "1 [\"\xe2\x82\n": {[]int{0, 1}, 4, api.WhyByte}, "{\"\xe2\xe2": {nil, 2, api.WhyByte}, "\"\x80": {nil, 1, api.WhyByte},
		"\"a\xe2\x82": {nil, 4, api.WhyEnd}, "\"\xf0\x9f\x98": {nil, 4, api.WhyEnd}, "\"\xed": {nil, 2, api.WhyEnd}, "1 [\"\xe2\x82": {[]int{0, 1}, 6, api.WhyEnd}, "{\"\xe2": {nil, 3, api.WhyEnd}, "\"ä": {nil, 3, api.WhyEnd},
	})
}

func TestEndsByHand(t *testing.T) {
	holdAll(t, 9, map[string]told{
		"tru": {nil, 3, api.WhyEnd}, "n": {nil, 1, api.WhyEnd}, "fals": {nil, 4, api.WhyEnd}, "-": {nil, 1, api.WhyEnd}, "1.": {nil, 2, api.WhyEnd}, "1e": {nil, 2, api.WhyEnd}, "1E+": {nil, 3, api.WhyEnd}, "-0.0e-": {nil, 6, api.WhyEnd}, `"`: {nil, 1, api.WhyEnd}, `"a`: {nil, 2, api.WhyEnd}, `"\`: {nil, 2, api.WhyEnd}, `"\"`: {nil, 3, api.WhyEnd}, `"\u12`: {nil, 5, api.WhyEnd}, `"\ud834\u`: {nil, 9, api.WhyEnd},
		"[": {nil, 1, api.WhyEnd}, "[ ": {nil, 2, api.WhyEnd}, "[1": {nil, 2, api.WhyEnd}, "[12 ": {nil, 4, api.WhyEnd}, "[1,": {nil, 3, api.WhyEnd}, "[true": {nil, 5, api.WhyEnd}, "[[]": {nil, 3, api.WhyEnd}, "{": {nil, 1, api.WhyEnd}, "{\n": {nil, 2, api.WhyEnd}, `{"`: {nil, 2, api.WhyEnd}, `{"a"`: {nil, 4, api.WhyEnd}, `{"a" :`: {nil, 6, api.WhyEnd}, `{"a":1`: {nil, 6, api.WhyEnd}, `{"a":1,`: {nil, 7, api.WhyEnd}, `{"a":1, `: {nil, 8, api.WhyEnd}, `{"a":{}`: {nil, 7, api.WhyEnd},
		// What is whole ahead of it; of texts in one another the outermost ones alone.
		"1 [": {[]int{0, 1}, 3, api.WhyEnd}, `true "a" [1] nul`: {[]int{0, 4, 5, 8, 9, 12}, 16, api.WhyEnd}, "1 2 -": {[]int{0, 1, 2, 3}, 5, api.WhyEnd}, `[true, "a", [], `: {nil, 16, api.WhyEnd}, `{} {"a":{} `: {[]int{0, 2}, 11, api.WhyEnd},
	})
}

func TestDepthsByHand(t *testing.T) {
	for _, c := range []struct {
		b     string
		depth int
		want  told
	}{
		{"[]", 0, told{nil, 0, api.WhyDepth}}, {"{}", 0, told{nil, 0, api.WhyDepth}}, {"[]", -1, told{nil, 0, api.WhyDepth}}, {" {", math.MinInt, told{nil, 1, api.WhyDepth}}, {`1e5 -0 "x"`, -1, told{[]int{0, 3, 4, 6, 7, 10}, 10, api.WhyNone}}, {`null "[" {`, 0, told{[]int{0, 4, 5, 8}, 9, api.WhyDepth}}, {"", 0, told{nil, 0, api.WhyNone}}, {"tru", 0, told{nil, 3, api.WhyEnd}},
		{"[]", 1, told{[]int{0, 2}, 2, api.WhyNone}}, {"[1] {}", 1, told{[]int{0, 3, 4, 6}, 6, api.WhyNone}}, {"[[1]]", 1, told{nil, 1, api.WhyDepth}}, {`[] {"a":{`, 1, told{[]int{0, 2}, 8, api.WhyDepth}}, {"[1,{}]", 1, told{nil, 3, api.WhyDepth}}, {"[ [", 1, told{nil, 2, api.WhyDepth}},
		{"[[1],[2]]", 2, told{[]int{0, 9}, 9, api.WhyNone}}, {"[[],[[]]]", 2, told{nil, 5, api.WhyDepth}}, {`[{"a":1},{"a":[]}]`, 2, told{nil, 14, api.WhyDepth}},
		// Brackets that couldn't open, however deep.
		{"{[", 1, told{nil, 1, api.WhyByte}}, {"{{", 1, told{nil, 1, api.WhyByte}}, {"1[", 0, told{nil, 1, api.WhyByte}}, {"[1[", 1, told{nil, 2, api.WhyByte}}, {"[]{", 1, told{[]int{0, 2}, 2, api.WhyByte}}, {`""[`, 0, told{[]int{0, 2}, 2, api.WhyByte}}, {`{"a"[`, 1, told{nil, 4, api.WhyByte}}, {`{"a":1,[`, 1, told{nil, 7, api.WhyByte}}, {"]", 0, told{nil, 0, api.WhyByte}}, {"[}", 1, told{nil, 1, api.WhyByte}}, {"-[", 0, told{nil, 1, api.WhyByte}}, {"t{", 0, told{nil, 1, api.WhyByte}},
	} {
		if got := checkOf(c.b, c.depth); !got.is(c.want) {
			t.Errorf("Check(%s, %d): %v, not %v", name(c.b), c.depth, got, c.want)
		}
	}
}

// nested are brackets in one another, of arrays and objects by turns, n deep.
func nested(n, turn int) string {
	var open, end string
	for i := range n {
		if turn > 0 && i/turn%2 == 1 {
			open, end = open+`{"a":`, "}"+end
		} else {
			open, end = open+"[", "]"+end
		}
	}
	return open + "1" + end
}

// TestDepths asks beside the greatest depth, and beside lesser ones.
func TestDepths(t *testing.T) {
	for _, turn := range []int{0, 1, 2, 3, 63, 64, 65} {
		for _, n := range []int{1, 2, 63, 64, 65, 66, 127, 128, 129, 191, 192, 193, 199, 200, 201, 202, 260} {
			b := nested(n, turn)
			for _, depth := range append(depths(), n-1, n, n+1) {
				want := told{[]int{0, len(b)}, len(b), api.WhyNone}
				if most := deepOf(depth); n > most {
					want = told{nil, strings.Index(nested(most, turn), "1"), api.WhyDepth}
				}
				if got := checkOf(b, depth); !got.is(want) {
					t.Errorf("%d deep, Check(%s, %d): %v, not %v", n, name(b), depth, got, want)
				}
			}
			if one := valid.One([]byte(b)); one != (n <= 200) {
				t.Errorf("%d deep: One(%s): %v", n, name(b), one)
			}
		}
	}
}

// TestBracketsKeepTheirKinds closes each of many brackets wrongly.
func TestBracketsKeepTheirKinds(t *testing.T) {
	for _, turn := range []int{0, 1, 2, 3, 64} {
		b := nested(200, turn)
		first := strings.Index(b, "1") + 1
		for at := first; at < len(b); at++ {
			other := []byte(b)
			other[at] ^= ']' ^ '}'
			if got := checkOf(string(other), 200); !got.is(told{nil, at, api.WhyByte}) {
				t.Errorf("by %d, at %d: %v", turn, at, got)
			}
		}
	}
}

func TestCheck(t *testing.T) {
	for i, b := range streams() {
		hold(t, b, 200)
		hold(t, b, i%4)
	}
	for _, p := range parts() {
		for _, depth := range depths() {
			hold(t, "["+p+"] "+p, depth)
		}
	}
}

// TestCheckAllBytes asks for each byte at each place where one may stand.
func TestCheckAllBytes(t *testing.T) {
	for _, ahead := range []string{"", " ", "1 ", "1", "-", "0", "10", "1.", "1.5", "1e", "1e+", "1e5", "n", "nu", "nul", "null", "t", "tr", "tru", "true", "f", "fa", "fal", "fals", "false", `"`, `"a`, `"\`, `"\u`, `"\u00e`, `"a"`, "\"\xc3", "\"\xe2\x82", "\"\xf0\x9f\x98", "[", "[ ", "[1", "[1 ", "[1,", "[1, ", "[]", "[[]", "{", "{ ", `{"`, `{"a`, `{"a"`, `{"a" `, `{"a":`, `{"a": `, `{"a":1`, `{"a":1 `, `{"a":1,`, `{"a":1, `, `{}`, `[{}`} {
		for c := range 256 {
			b := ahead + string([]byte{byte(c)})
			hold(t, b, 1)
			hold(t, b, 9)
			hold(t, b+"\x80 1", 9)
		}
	}
}

// TestCheckAllShort asks for all that a few parts may be in a row.
func TestCheckAllShort(t *testing.T) {
	few := []string{"[", "]", "{", "}", ",", ":", `"a"`, "1", "true", " "}
	row := []string{""}
	for range 4 {
		var longer []string
		for _, b := range row {
			for _, p := range few {
				longer = append(longer, b+p)
			}
		}
		for i, b := range longer {
			hold(t, b, i%3)
		}
		row = longer
	}
	numbers := []string{""}
	for range 6 {
		var longer []string
		for _, b := range numbers {
			for _, p := range []string{"0", "1", "-", ".", "e", " "} {
				longer = append(longer, b+p)
			}
		}
		for _, b := range longer {
			hold(t, b, 1)
		}
		numbers = longer
	}
}

func TestCheckLongStreams(t *testing.T) {
	b := strings.Repeat(`{"a": [1, "é"]} `, 50000)
	spans, fault := valid.Check([]byte(b), 2)
	if len(spans) != 50000 || fault != (api.Fault{At: len(b)}) || spans[49999] != (api.Span{From: len(b) - 17, To: len(b) - 1}) {
		t.Error(len(spans), fault)
	}
	b = "[" + strings.Repeat(`"\ud834",`, 50000)
	if got := checkOf(b+"]", 200); !got.is(told{nil, len(b), api.WhyByte}) {
		t.Error(got)
	}
	b = strings.Repeat("[[],", 150) + strings.Repeat("[]", 100)
	if got := checkOf(b, 200); !got.is(told{nil, 602, api.WhyByte}) {
		t.Error(got)
	}
}
