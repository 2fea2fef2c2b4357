package emit_test

import (
	"math"
	"strings"
	"testing"

	"lorgnette/api"
)

// TestTextInOneLine goes through the kinds.
func TestTextInOneLine(t *testing.T) {
	one, two := num(1), num(2)
	for want, v := range map[string]api.Value{
		"null": null, "false": {Kind: api.False}, "true": {Kind: api.True},
		"0": num(0), "-7": num(-7), "0.1": literal("1e-1"), "100000000000000000000": literal("1e20"), "1e21": literal("1e21"), "-1.2e-8": literal("-12e-9"), "1e10000": literal("1e10000"), "1e-10000": literal("1e-10000"),
		`""`: text(""), `"a"`: text("a"), `"\"\\/"`: text("\"\\/"), `"\b\t\n\f\r\u0000\u001f\u007f"`: text("\b\t\n\f\r\x00\x1f\x7f"), `"é�𝄞"`: text("é�𝄞"), `"[1, 2]"`: text("[1, 2]"),
		"[]": arr(), "[null]": arr(null), "[1,2]": arr(one, two), `[1,"1",[[],{}],{"a":null}]`: arr(one, text("1"), arr(arr(), obj()), obj(field("a", null))),
		"{}": obj(), `{"a":1}`: obj(field("a", one)), `{"b":1,"a":2,"":{"b":1,"a":[]}}`: obj(field("b", one), field("a", two), field("", obj(field("b", one), field("a", arr())))), `{"\"\n":"é"}`: obj(field("\"\n", text("é"))),
	} {
		for _, s := range []api.Style{{}, {Indent: -1}, {Indent: -8}, {Indent: math.MinInt}} {
			written(t, v, s, want, api.OK)
		}
	}
	digits := strings.Repeat("123456789", 44) + "1234"
	written(t, literal("-"+digits), api.Style{}, "-1."+digits[1:]+"e399", api.OK)
}

// TestTextInAscii goes to the borders of what is written as it is; keys are, too.
func TestTextInAscii(t *testing.T) {
	for s, want := range map[string]string{
		"":             `""`,
		"a~\x7f":       `"a~\u007f"`,
		"\u0080":       `"\u0080"`,
		"ä":            `"\u00e4"`,
		"\uffff":       `"\uffff"`,
		"𝄞":            `"\ud834\udd1e"`,
		"\U00010000":   `"\ud800\udc00"`,
		"\U0010ffff\n": `"\udbff\udfff\n"`,
	} {
		written(t, text(s), api.Style{Ascii: true}, want, api.OK)
		written(t, obj(field(s, arr(text(s)))), api.Style{Ascii: true}, "{"+want+":["+want+"]}", api.OK)
		written(t, obj(field(s, arr(text(s)))), api.Style{Ascii: true, Tab: true}, "{\n\t"+want+": [\n\t\t"+want+"\n\t]\n}", api.OK)
	}
}

// TestTextInOrder: keys go by their code points, at all depths, and not by how they are written.
func TestTextInOrder(t *testing.T) {
	one, two, three := num(1), num(2), num(3)
	v := obj(field("b", obj(field("z", one), field("y", arr(obj(field("k", one), field("", two), field("j", three)))))), field("B", two), field("", three), field("aa", arr(two, one)), field("a", null))
	sorted := api.Style{Sort: true}
	written(t, v, sorted, `{"":3,"B":2,"a":null,"aa":[2,1],"b":{"y":[{"":2,"j":3,"k":1}],"z":1}}`, api.OK)
	written(t, v, api.Style{}, `{"b":{"z":1,"y":[{"k":1,"":2,"j":3}]},"B":2,"":3,"aa":[2,1],"a":null}`, api.OK)
	written(t, arr(v.Obj[0].Val), api.Style{Sort: true, Indent: 1}, "[\n {\n  \"y\": [\n   {\n    \"\": 2,\n    \"j\": 3,\n    \"k\": 1\n   }\n  ],\n  \"z\": 1\n }\n]", api.OK)
	signs := obj(field("𝄞", one), field("\uffff", two), field("\\", three), field("\n", one), field("é", two), field("!", three), field("\"", one), field("\x7f", two))
	written(t, signs, sorted, "{\"\\n\":1,\"!\":3,\"\\\"\":1,\"\\\\\":3,\"\\u007f\":2,\"é\":2,\"\uffff\":2,\"𝄞\":1}", api.OK)
	written(t, signs, api.Style{Sort: true, Ascii: true}, `{"\n":1,"!":3,"\"":1,"\\":3,"\u007f":2,"\u00e9":2,"\uffff":2,"\ud834\udd1e":1}`, api.OK)
}

// TestTextInLines has the document's example, and each step.
func TestTextInLines(t *testing.T) {
	v := arr(num(1), obj(field("a", null)))
	written(t, v, api.Style{}, `[1,{"a":null}]`, api.OK)
	written(t, v, api.Style{Indent: 2}, "[\n  1,\n  {\n    \"a\": null\n  }\n]", api.OK)
	for indent, step := range map[int]string{1: " ", 3: "   ", 4: "    ", 7: "       ", 8: "        ", 9: "        ", 16: "        ", math.MaxInt: "        "} {
		written(t, v, api.Style{Indent: indent}, "[\n"+step+"1,\n"+step+"{\n"+step+step+"\"a\": null\n"+step+"}\n]", api.OK)
	}
	for _, indent := range []int{0, 1, 8, 9, -1, math.MinInt, math.MaxInt} {
		written(t, v, api.Style{Tab: true, Indent: indent}, "[\n\t1,\n\t{\n\t\t\"a\": null\n\t}\n]", api.OK)
	}
}

// TestTextWithoutLines: what has no brackets, or nothing between them, has no lines of its own.
func TestTextWithoutLines(t *testing.T) {
	for want, v := range map[string]api.Value{"[]": arr(), "{}": obj(), "null": null, "true": {Kind: api.True}, "1.5": literal("1.5"), `"[1, {}]\n"`: text("[1, {}]\n")} {
		for _, s := range lines {
			written(t, v, s, want, api.OK)
		}
		written(t, arr(v, v), api.Style{Indent: 1}, "[\n "+want+",\n "+want+"\n]", api.OK)
		written(t, obj(field("", v), field("a:b", v)), api.Style{Indent: 1}, "{\n \"\": "+want+",\n \"a:b\": "+want+"\n}", api.OK)
		written(t, arr(obj(field("a", arr(v)))), api.Style{Tab: true}, "[\n\t{\n\t\t\"a\": [\n\t\t\t"+want+"\n\t\t]\n\t}\n]", api.OK)
	}
}

// TestTextOfTheDeepest goes to the limit, and a step beyond it.
func TestTextOfTheDeepest(t *testing.T) {
	written(t, within(null, 200), api.Style{}, strings.Repeat("[", 200)+"null"+strings.Repeat("]", 200), api.OK)
	written(t, within(arr(), 199), api.Style{Sort: true}, strings.Repeat("[", 200)+strings.Repeat("]", 200), api.OK)
	written(t, underKeys(null, 200), api.Style{Sort: true}, strings.Repeat(`{"k":`, 200)+"null"+strings.Repeat("}", 200), api.OK)
	for _, s := range styles {
		v := arr(within(obj(field("b", num(1)), field("a", arr())), 197), underKeys(text("é"), 199))
		written(t, v, s, textOf(v, s), api.OK)
		written(t, within(null, 201), s, "", api.ErrArg)
		written(t, underKeys(null, 201), s, "", api.ErrArg)
	}
}

// TestTextOfWrong: what may not be has no text.
func TestTextOfWrong(t *testing.T) {
	for _, v := range wrong() {
		for _, s := range styles {
			written(t, v, s, "", api.ErrArg)
		}
	}
}

// TestTextOfMany is of an array that is long.
func TestTextOfMany(t *testing.T) {
	v := arr()
	var texts []string
	for i := range 100000 {
		item := obj(field("b", num(i)), field("a", arr(text("x"))))
		v.Arr = append(v.Arr, item)
		texts = append(texts, textOf(item, api.Style{}))
	}
	written(t, v, api.Style{}, "["+strings.Join(texts, ",")+"]", api.OK)
	written(t, arr(v.Arr[:1000]...), api.Style{Tab: true}, textOf(arr(v.Arr[:1000]...), api.Style{Tab: true}), api.OK)
}
