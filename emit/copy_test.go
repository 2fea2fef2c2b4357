package emit_test

import (
	"strings"
	"testing"

	"lorgnette/api"
	"lorgnette/cursor"
	"lorgnette/emit"
)

func TestParse(t *testing.T) {
	one, two := num(1), num(2)
	for b, want := range map[string]api.Value{
		"null": null, " false\n": {Kind: api.False}, "\ttrue": {Kind: api.True},
		"-0": num(0), "1.50e1": num(15), "1E400": literal("1e400"), `"\u00e4\/\ud834\udd1e"`: text("ä/𝄞"), `"\ud834"`: text("�"), `""`: text(""),
		"[]": arr(), "[ 1 , 2 ]": arr(one, two), "{ }": obj(), `{"b":1, "a":[2]}`: obj(field("b", one), field("a", arr(two))),
		`{"a":1,"b":1,"\u0061":2}`: obj(field("a", two), field("b", one)), `{"a":{"a":1},"a":{}}`: obj(field("a", obj())),
	} {
		read(t, b, want, api.OK)
	}
	read(t, strings.Repeat(" [\n", 200)+"]"+strings.Repeat("]", 199), within(arr(), 199), api.OK)
}

// wrongTexts are bytes that have no value, by what is wrong with them.
var wrongTexts = map[api.Errno][]string{
	api.ErrShort: {"", " ", "\n\t", "[", "[1", "[1,", `{"a"`, `{"a":1,`, `"a`, `"a\`, `"\u00`, "tru", "-", "1e", "1.", "\"\xc3", " [[]", `{"":"`, "1 ["},
	api.ErrForm:  {"1 2", "[] []", "01", "+1", "[1,]", "{\"a\":1,}", "{1:2}", "]", "[}", "nul ", "truE", "\"\\x\"", "\"\n\"", "\"\xff\"", "\"\xc3\"", "\"\xed\xa0\x80\"", "[1] x", "'a'", "\ufeff1", "1\x00", "\x00", "//", "[1 2]", "{\"a\" 1}", "NaN", "1e99999 1"},
	api.ErrDepth: {strings.Repeat("[", 201), strings.Repeat("[", 201) + strings.Repeat("]", 201), strings.Repeat(`{"a":`, 201) + "1", strings.Repeat("[", 200) + "{}"},
	api.ErrRange: {"1e10001", "-1e-10001", "1e99999", strings.Repeat("9", 401), "[1,[1e10001]]", `{"a":1e10001,"a":1}`, `{"a":{"b":[1e-99999]},"a":2}`, "1" + strings.Repeat("0", 1000), "0." + strings.Repeat("0", 1000)},
}

// TestOfWrongTexts: they are read as nothing, and nothing is handed on of them.
func TestOfWrongTexts(t *testing.T) {
	for err, texts := range wrongTexts {
		for _, b := range texts {
			read(t, b, null, err)
			for _, s := range styles {
				copied(t, b, s, "", err)
			}
		}
	}
	if _, err := emit.Parse(nil); err != api.ErrShort {
		t.Error("Parse of nil:", err)
	}
	if s, is, err := emit.Copy(nil, api.Style{}); s != "" || is || err != api.ErrShort || emit.Plain(nil, api.Style{}) {
		t.Error("Copy of nil:", s, is, err)
	}
}

// TestParseOfAny holds what is read, and what is refused, against the layer that reads, over texts that a few bytes were changed in.
func TestParseOfAny(t *testing.T) {
	m := newMaker(3)
	for range 20000 {
		b := m.spoilt(textOf(m.value(3), m.style()))
		want, wantErr := null, api.OK
		doc, err := cursor.New([]byte(b))
		if err != api.OK {
			wantErr = err
		} else {
			want, wantErr = doc.Value(doc.Root())
		}
		read(t, b, want, wantErr)
		s := m.style()
		handedOn := ""
		if wantErr == api.OK {
			handedOn = textOf(want, s)
		}
		copied(t, b, s, handedOn, wantErr)
	}
}

// spoilt is a text with some of its bytes taken away, doubled, or others in their places.
func (m maker) spoilt(b string) string {
	for range m.below(3) {
		at := m.below(len(b))
		with := []string{"", b[at:at+1] + b[at:at+1], " ", "\n", "\t", "0", "1", "a", "\"", ",", "/", "[]"}[m.below(12)]
		b = b[:at] + with + b[at+1:]
		if b == "" {
			return "0"
		}
	}
	return b
}

// TestCopy has the document's examples, and others by hand.
func TestCopy(t *testing.T) {
	plain, sorted, ascii, tab, two := api.Style{}, api.Style{Sort: true}, api.Style{Ascii: true}, api.Style{Tab: true}, api.Style{Indent: 2}
	for _, c := range []struct {
		b    string
		s    api.Style
		want string
	}{
		{"[1, 2]", plain, "[1,2]"}, {"[1,2]", plain, "[1,2]"}, {" [1,2]", plain, "[1,2]"}, {"[1,2]\n", plain, "[1,2]"},
		{`{"b":1,"a":1e1}`, sorted, `{"a":10,"b":1}`}, {`{"b":1,"a":1e1}`, plain, `{"b":1,"a":10}`}, {`{"a":10,"b":1}`, sorted, `{"a":10,"b":1}`}, {`{"b":1,"a":10}`, plain, `{"b":1,"a":10}`},
		{`{"a":1,"a":2}`, plain, `{"a":2}`}, {`{"a":1,"b":2,"a":3}`, plain, `{"a":3,"b":2}`}, {`{"a":1,"a":1}`, sorted, `{"a":1}`}, {`{"a":1,"\u0061":1}`, plain, `{"a":1}`}, {`{"b":{"d":1,"c":2}}`, sorted, `{"b":{"c":2,"d":1}}`},
		{"-0", plain, "0"}, {"0", plain, "0"}, {"1.0", plain, "1"}, {"1e1", plain, "10"}, {"1E21", plain, "1e21"}, {"1e21", plain, "1e21"}, {"1e+21", plain, "1e21"}, {"10e20", plain, "1e21"}, {"1000000000000000000000", plain, "1e21"}, {"100000000000000000000", plain, "100000000000000000000"}, {"0.00000001", plain, "1e-8"}, {"1e-8", plain, "1e-8"}, {"0.10", plain, "0.1"},
		{`"\u00e4"`, plain, `"ä"`}, {`"ä"`, plain, `"ä"`}, {`"\u00e4"`, ascii, `"\u00e4"`}, {`"\u00E4"`, ascii, `"\u00e4"`}, {`"ä"`, ascii, `"\u00e4"`}, {`{"ä":1}`, ascii, `{"\u00e4":1}`}, {`{"\u00e4":1}`, ascii, `{"\u00e4":1}`}, {`{"\u00e4":1}`, plain, `{"ä":1}`},
		{`"\/"`, plain, `"/"`}, {`"\u0041"`, ascii, `"A"`}, {`"\u000a"`, plain, `"\n"`}, {`"\n"`, plain, `"\n"`}, {`"\u001F"`, plain, `"\u001f"`}, {`"\u001f"`, plain, `"\u001f"`}, {"\"\x7f\"", plain, `"\u007f"`}, {`"\u007f"`, plain, `"\u007f"`}, {`"\ud800"`, plain, `"�"`}, {`"\ud800"`, ascii, `"\ufffd"`}, {`"�"`, plain, `"�"`},
		{"[]", tab, "[]"}, {"[ ]", tab, "[]"}, {"[\n]", tab, "[]"}, {"{\n\t}", tab, "{}"}, {"null", two, "null"}, {" null", two, "null"},
		{"[1]", two, "[\n  1\n]"}, {"[\n  1\n]", two, "[\n  1\n]"}, {"[\n 1\n]", two, "[\n  1\n]"}, {"[\n\t1\n]", two, "[\n  1\n]"}, {"[\r\n  1\n]", two, "[\n  1\n]"}, {"[\n  1\n]\n", two, "[\n  1\n]"}, {"[\n  1\n]", plain, "[1]"}, {"[\n  1 ,\n  2\n]", two, "[\n  1,\n  2\n]"}, {"[\n  1, \n  2\n]", two, "[\n  1,\n  2\n]"},
		{"{\n\t\"a\": 1\n}", tab, "{\n\t\"a\": 1\n}"}, {"{\n\t\"a\":1\n}", tab, "{\n\t\"a\": 1\n}"}, {"{\n\t\"a\" : 1\n}", tab, "{\n\t\"a\": 1\n}"}, {"{\n\t\"a\": 1\n}", api.Style{Tab: true, Indent: 2}, "{\n\t\"a\": 1\n}"}, {"{\n  \"a\": 1\n}", api.Style{Tab: true, Indent: 2}, "{\n\t\"a\": 1\n}"},
		{"[\n" + strings.Repeat(" ", 8) + "1\n]", api.Style{Indent: 9}, "[\n        1\n]"}, {"[\n" + strings.Repeat(" ", 9) + "1\n]", api.Style{Indent: 9}, "[\n        1\n]"},
		{"[1,{\"a\":null},[],{}]", two, "[\n  1,\n  {\n    \"a\": null\n  },\n  [],\n  {}\n]"},
		{"[[true]]", api.Style{Tab: true, Indent: 3}, "[\n\t[\n\t\ttrue\n\t]\n]"},
		{" false ", plain, "false"},
	} {
		copied(t, c.b, c.s, c.want, api.OK)
	}
}

// TestPlainOfAll goes through all short rows of signs: those that are plain are the texts of the values of them all.
func TestPlainOfAll(t *testing.T) {
	for signs, most := range map[string]int{"[]{},:\"a10- \n": 4, "{}\":a1,": 7, "[]1, \n\t": 6, "\"\\uUa0E9/\xc3\xa4": 4, "10.eE-+": 5} {
		rows := []string{""}
		for from := 0; len(rows[from]) < most; from++ {
			for _, sign := range []byte(signs) {
				rows = append(rows, rows[from]+string([]byte{sign}))
			}
		}
		for _, s := range []api.Style{{}, {Ascii: true, Sort: true}, {Indent: 1}, {Tab: true}} {
			texts := map[string]bool{}
			for _, row := range rows {
				if v, err := emit.Parse([]byte(row)); err == api.OK {
					texts[textOf(v, s)] = true
				}
			}
			for _, row := range rows {
				if emit.Plain([]byte(row), s) != texts[row] {
					t.Errorf("Plain of %q, %+v: %v", row, s, !texts[row])
				}
			}
		}
	}
}
