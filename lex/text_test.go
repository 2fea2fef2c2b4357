package lex_test

import (
	"fmt"
	"strings"
	"testing"

	"lorgnette/api"
	"lorgnette/lex"
	"lorgnette/quote"
)

const replaced = "\xef\xbf\xbd"

func TestTextsByHand(t *testing.T) {
	for s, want := range map[string][]api.Token{
		`""`: tokens(open(0), shut(1)), `"a"`: tokens(open(0), text(1, "a"), shut(2)), `"a" "b"`: tokens(open(0), text(1, "a"), shut(2), open(4), text(5, "b"), shut(6)), `"a""b"`: tokens(open(0), text(1, "a"), shut(2), open(3), text(4, "b"), shut(5)), `."a"`: tokens(op(0, "."), open(1), text(2, "a"), shut(3)), `a"1"2`: tokens(name(0, "a"), open(1), text(2, "1"), shut(3), number(4, "2")),
		// What is none outside of texts.
		"\" # ~ $ @ ( ) [ /\"": tokens(open(0), text(1, " # ~ $ @ ( ) [ /"), shut(17)), `"äé€𝄞"`: tokens(open(0), text(1, "äé€𝄞"), shut(12)), "\"\x00\t\n\r\x1f\x7f\"": tokens(open(0), text(1, "\x00\t\n\r\x1f\x7f"), shut(7)),
		// Pieces.
		`"\"\\\/\b\f\n\r\t"`: tokens(open(0), text(1, "\"\\/\b\f\n\r\t"), shut(17)), `"\u0041\u00e4\u20AC"`: tokens(open(0), text(1, "Aä€"), shut(19)), `"\u0000\u0022\u005c\u000a"`: tokens(open(0), text(1, "\x00\"\\\n"), shut(25)), `"a\u0062c\n"`: tokens(open(0), text(1, "abc\n"), shut(11)), "\"\n\\n\n\"": tokens(open(0), text(1, "\n\n\n"), shut(5)),
		// Two pieces that are one code point, and halves of one.
		`"\ud834\udd1e"`: tokens(open(0), text(1, "𝄞"), shut(13)), `"\n\uDBFF\uDFFF\t"`: tokens(open(0), text(1, "\n\U0010ffff\t"), shut(17)), `"\ud834"`: tokens(open(0), text(1, replaced), shut(7)), `"\udd1e"`: tokens(open(0), text(1, replaced), shut(7)), `"\udd1e\ud834"`: tokens(open(0), text(1, replaced+replaced), shut(13)), `"\ud834\ud834\udd1e"`: tokens(open(0), text(1, replaced+"𝄞"), shut(19)), `"\ud834a\udd1e"`: tokens(open(0), text(1, replaced+"a"+replaced), shut(14)), `"\ud834\n\udd1e"`: tokens(open(0), text(1, replaced+"\n"+replaced), shut(15)), `"\ud834\u0041"`: tokens(open(0), text(1, replaced+"A"), shut(13)), `"\ud834\(1)\udd1e"`: tokens(open(0), text(1, replaced), in(7), number(9, "1"), out(10), text(11, replaced), shut(17)), `"\ud834" "\udd1e"`: tokens(open(0), text(1, replaced), shut(7), open(9), text(10, replaced), shut(16)),
		// What ends a text, and what doesn't.
		`"\\"`: tokens(open(0), text(1, `\`), shut(3)), `"\\\""`: tokens(open(0), text(1, `\"`), shut(5)), `"\\(1)"`: tokens(open(0), text(1, `\(1)`), shut(6)), `"\\\(1)"`: tokens(open(0), text(1, `\`), in(3), number(5, "1"), out(6), shut(7)), `"\"\(1)"`: tokens(open(0), text(1, `"`), in(3), number(5, "1"), out(6), shut(7)),
		// Filters within.
		`"\(1)"`: tokens(open(0), in(1), number(3, "1"), out(4), shut(5)), `"\()"`: tokens(open(0), in(1), out(3), shut(4)), `"\(1)\(2)"`: tokens(open(0), in(1), number(3, "1"), out(4), in(5), number(7, "2"), out(8), shut(9)), `"a\(1)b\(2)c"`: tokens(open(0), text(1, "a"), in(2), number(4, "1"), out(5), text(6, "b"), in(7), number(9, "2"), out(10), text(11, "c"), shut(12)), `" \( 1 ) "`: tokens(open(0), text(1, " "), in(2), number(5, "1"), out(7), text(8, " "), shut(9)), `"\(1))"`: tokens(open(0), in(1), number(3, "1"), out(4), text(5, ")"), shut(6)), `"(\(1)("`: tokens(open(0), text(1, "("), in(2), number(4, "1"), out(5), text(6, "("), shut(7)),
		`"\((1))"`: tokens(open(0), in(1), op(3, "("), number(4, "1"), op(5, ")"), out(6), shut(7)), `"\(f((1);(2)))"`: tokens(open(0), in(1), name(3, "f"), op(4, "("), op(5, "("), number(6, "1"), op(7, ")"), op(8, ";"), op(9, "("), number(10, "2"), op(11, ")"), op(12, ")"), out(13), shut(14)), `("\(1)")`: tokens(op(0, "("), open(1), in(2), number(4, "1"), out(5), shut(6), op(7, ")")), `)"\(1)")`: tokens(op(0, ")"), open(1), in(2), number(4, "1"), out(5), shut(6), op(7, ")")), `(("\(()))")`: tokens(op(0, "("), op(1, "("), open(2), in(3), op(5, "("), op(6, ")"), out(7), text(8, ")"), shut(9), op(10, ")")), `"\([)]"`: tokens(open(0), in(1), op(3, "["), out(4), text(5, "]"), shut(6)),
		"\"\\(1 # )\n)\"": tokens(open(0), in(1), number(3, "1"), out(9), shut(10)), `"\(.a)"`: tokens(open(0), in(1), field(3, "a"), out(5), shut(6)), `"\(1.)"`: tokens(open(0), in(1), number(3, "1"), op(4, "."), out(5), shut(6)),
		// Texts within.
		`"\("a")"`: tokens(open(0), in(1), open(3), text(4, "a"), shut(5), out(6), shut(7)), `"\(")")"`: tokens(open(0), in(1), open(3), text(4, ")"), shut(5), out(6), shut(7)), `"\("(")"`: tokens(open(0), in(1), open(3), text(4, "("), shut(5), out(6), shut(7)), `"\("\("\(1)")")"`: tokens(open(0), in(1), open(3), in(4), open(6), in(7), number(9, "1"), out(10), shut(11), out(12), shut(13), out(14), shut(15)), `"\(("a\((1))"))b"`: tokens(open(0), in(1), op(3, "("), open(4), text(5, "a"), in(6), op(8, "("), number(9, "1"), op(10, ")"), out(11), shut(12), op(13, ")"), out(14), text(15, "b"), shut(16)), `"\(@json "\(1)")"`: tokens(open(0), in(1), format(3, "@json"), open(9), in(10), number(12, "1"), out(13), shut(14), out(15), shut(16)),
	} {
		right(t, s, want...)
	}
}

// TestEachPiece takes each code point up to 300 as it is, each byte below 128 behind a backslash, and each number of four digits.
func TestEachPiece(t *testing.T) {
	for p := range 300 {
		s := `"a` + string(rune(p)) + `b\(1)"`
		given(t, s, modelOf(s))
	}
	for c := range 128 {
		for _, more := range []string{"", `"`, `0041"`, `1)"`} {
			s := `"a\` + string(rune(c)) + more
			given(t, s, modelOf(s))
		}
	}
	for h := range 65536 {
		piece := fmt.Sprintf(`"\u%04x"`, h)
		said, _, _ := quote.Read([]byte(piece))
		right(t, piece, open(0), text(1, said), shut(7))
	}
}

// TestShortTexts holds all rows of up to three parts of texts against the model, with a quote at the end and without.
func TestShortTexts(t *testing.T) {
	for _, a := range partsOfTexts {
		for _, b := range partsOfTexts {
			for _, c := range partsOfTexts {
				s := `"` + a + b + c
				given(t, s, modelOf(s))
				given(t, s+`" 1`, modelOf(s+`" 1`))
			}
		}
	}
}

// TestTextsInTexts goes as deep as texts may stand in one another, and deeper: the innermost one stands in so many others.
func TestTextsInTexts(t *testing.T) {
	for deep := range 60 {
		s := `"` + strings.Repeat(`\("`, deep) + "a" + strings.Repeat(`")`, deep) + `"`
		given(t, s, modelOf(s))
		if l, _, err := lex.Tokens(s); (err == api.OK) != (deep < 50) || err == api.OK && len(l) != 3+4*deep {
			t.Errorf("a text in %d others: %d tokens, %d", deep, len(l), err)
		}
	}
	many := strings.Repeat(`"\("a")"`, 1000) // in a row they don't count
	if l, at, err := lex.Tokens(many); len(l) != 7000 || at != 0 || err != api.OK {
		t.Errorf("%d, %d, %d", len(l), at, err)
	}
}

// TestWhatIsQuoted: what quote writes is one text, or none if it is empty.
func TestWhatIsQuoted(t *testing.T) {
	for _, part := range partsOfTexts {
		for _, s := range []string{part, part + "a", "a" + part, part + part} {
			for _, quoted := range []string{quote.Quote(s), quote.Ascii(s)} {
				right(t, quoted, open(0), text(1, s), shut(len(quoted)-1))
			}
		}
	}
}
