package lex_test

import (
	"math/rand"
	"slices"
	"strings"
	"testing"

	"lorgnette/api"
	"lorgnette/lex"
)

func TestTokensByHand(t *testing.T) {
	for s, want := range map[string][]api.Token{
		"": nil, " \t\n\r": nil, "#": nil, "# a \" \\ $ ~ \x00 ä": nil, "#\n#\n": nil,
		// The document's own.
		`.a|"x\(1)y"`: tokens(field(0, "a"), op(2, "|"), open(3), text(4, "x"), in(5), number(7, "1"), out(8), text(9, "y"), shut(10)),
		// Numbers.
		"0": tokens(number(0, "0")), "007": tokens(number(0, "007")), "12.50": tokens(number(0, "12.50")), "1e3": tokens(number(0, "1e3")), "1E+3": tokens(number(0, "1E+3")), "1.5e-30": tokens(number(0, "1.5e-30")),
		"1.": tokens(number(0, "1"), op(1, ".")), "1..2": tokens(number(0, "1"), op(1, ".."), number(3, "2")), "1.2.3": tokens(number(0, "1.2"), op(3, "."), number(4, "3")),
		".5": tokens(op(0, "."), number(1, "5")), "..5": tokens(op(0, ".."), number(2, "5")), "-5": tokens(op(0, "-"), number(1, "5")),
		"1e": tokens(number(0, "1"), name(1, "e")), "1e+": tokens(number(0, "1"), name(1, "e"), op(2, "+")), "1e-x": tokens(number(0, "1"), name(1, "e"), op(2, "-"), name(3, "x")), "1e+-2": tokens(number(0, "1"), name(1, "e"), op(2, "+"), op(3, "-"), number(4, "2")), "1e3e4": tokens(number(0, "1e3"), name(3, "e4")), "1e3.5": tokens(number(0, "1e3"), op(3, "."), number(4, "5")),
		"1.e3": tokens(number(0, "1"), field(1, "e3")), "1.5a": tokens(number(0, "1.5"), name(3, "a")), "1a2": tokens(number(0, "1"), name(1, "a2")), "1_": tokens(number(0, "1"), name(1, "_")), "0x1F": tokens(number(0, "0"), name(1, "x1F")), "1 e3": tokens(number(0, "1"), name(2, "e3")), "1. 5": tokens(number(0, "1"), op(1, "."), number(3, "5")), "1.5e 3": tokens(number(0, "1.5"), name(3, "e"), number(5, "3")),
		// Names, and the words of the language.
		"a": tokens(name(0, "a")), "_": tokens(name(0, "_")), "aZ_09z": tokens(name(0, "aZ_09z")), "__a b1": tokens(name(0, "__a"), name(4, "b1")), "if then": tokens(name(0, "if"), name(3, "then")), "a-b": tokens(name(0, "a"), op(1, "-"), name(2, "b")), "a.b": tokens(name(0, "a"), field(1, "b")), "a::b": tokens(name(0, "a"), op(1, ":"), op(2, ":"), name(3, "b")), "a$b": tokens(name(0, "a"), vari(1, "b")), "a@b": tokens(name(0, "a"), format(1, "@b")),
		// Fields, variables, formats.
		".a": tokens(field(0, "a")), "._9": tokens(field(0, "_9")), ".if": tokens(field(0, "if")), ".a.b": tokens(field(0, "a"), field(2, "b")), ". a": tokens(op(0, "."), name(2, "a")), ".#\na": tokens(op(0, "."), name(3, "a")), "..a": tokens(op(0, ".."), name(2, "a")), "...a": tokens(op(0, ".."), field(2, "a")), ".a.": tokens(field(0, "a"), op(2, ".")), ".a1.5": tokens(field(0, "a1"), op(3, "."), number(4, "5")), ".$a": tokens(op(0, "."), vari(1, "a")),
		"$x": tokens(vari(0, "x")), "$__loc__": tokens(vari(0, "__loc__")), "$end$a1": tokens(vari(0, "end"), vari(4, "a1")), "$x.y": tokens(vari(0, "x"), field(2, "y")),
		"@csv": tokens(format(0, "@csv")), "@base64d": tokens(format(0, "@base64d")), "@if@_": tokens(format(0, "@if"), format(3, "@_")), `@json"a"`: tokens(format(0, "@json"), open(5), text(6, "a"), shut(7)),
		// Signs: the longest one that fits.
		"a//=b": tokens(name(0, "a"), op(1, "//="), name(4, "b")), "///=": tokens(op(0, "//"), op(2, "/=")), "////": tokens(op(0, "//"), op(2, "//")), "/ /": tokens(op(0, "/"), op(2, "/")), "?//=": tokens(op(0, "?"), op(1, "//=")), "===": tokens(op(0, "=="), op(2, "=")), "!==": tokens(op(0, "!="), op(2, "=")), "<=>=": tokens(op(0, "<="), op(2, ">=")), "|==": tokens(op(0, "|="), op(2, "=")), "|||": tokens(op(0, "|"), op(1, "|"), op(2, "|")), "+=-": tokens(op(0, "+="), op(2, "-")), "*=/=%=": tokens(op(0, "*="), op(2, "/="), op(4, "%=")), "< =": tokens(op(0, "<"), op(2, "=")), "....": tokens(op(0, ".."), op(2, "..")), "[]{}():;,": tokens(op(0, "["), op(1, "]"), op(2, "{"), op(3, "}"), op(4, "("), op(5, ")"), op(6, ":"), op(7, ";"), op(8, ",")), ")](": tokens(op(0, ")"), op(1, "]"), op(2, "(")),
		// Blanks and notes.
		" a\t b\r\nc ": tokens(name(1, "a"), name(4, "b"), name(7, "c")), "a#b\nc": tokens(name(0, "a"), name(4, "c")), "a #b": tokens(name(0, "a")), "#a\r b\nc": tokens(name(6, "c")), "# \\\na": tokens(name(4, "a")), "##\n#\n a#": tokens(name(6, "a")), "1#\n.5": tokens(number(0, "1"), op(3, "."), number(4, "5")), "/#\n/": tokens(op(0, "/"), op(3, "/")),
	} {
		right(t, s, want...)
	}
}

// TestEachSign takes each sign for itself, and each two of them one behind the other.
func TestEachSign(t *testing.T) {
	for _, a := range documentsSigns {
		right(t, a, op(0, a))
		right(t, " "+a+"a", modelOf(" "+a+"a").tokens...)
		for _, b := range documentsSigns {
			right(t, a+" "+b, op(0, a), op(len(a)+1, b))
			given(t, a+b, modelOf(a+b))
		}
	}
}

// TestEachByte takes each byte below 128 as the first one, and at each place of a name, a number and a field.
func TestEachByte(t *testing.T) {
	for c := range 128 {
		for _, s := range []string{"", "a", "1", "1.", "1.5", "1e", "1e+", "1e+5", ".", ".a", "$", "$a", "@", "@a", "a ", "#", "/", "//", "="} {
			for _, more := range []string{"", "a", "1", " "} {
				b := s + string(rune(c)) + more
				given(t, b, modelOf(b))
			}
		}
	}
}

// TestShortRows holds all rows of two parts against the model, and of three, whose last one may go on with what stands ahead.
func TestShortRows(t *testing.T) {
	for _, a := range partsOutside {
		given(t, a, modelOf(a))
		for _, b := range partsOutside {
			given(t, a+b, modelOf(a+b))
			for _, c := range []string{"a", "_", "1", "e1", ".", ".5", "=", "/", ".a", "$", "#", "\n", `"`, `"\(`, ")", "~", "ä"} {
				given(t, a+b+c, modelOf(a+b+c))
			}
		}
	}
}

// TestLongRows holds long rows, most of which go wrong somewhere, against the model, and filters in which nothing is wrong, and such in which one thing is.
func TestLongRows(t *testing.T) {
	m := newMaker(1)
	parts := append(slices.Clone(partsOutside), partsOfTexts...)
	for range 10000 {
		row := m.row(parts, 12)
		given(t, row, modelOf(row))
		s := strings.Join(m.spelt(4), " ")
		want := modelOf(s)
		if want.err != api.OK {
			t.Fatalf("%q: %d, %d", s, want.at, want.err)
		}
		given(t, s, want)
		s = m.spoilt(s)
		given(t, s, modelOf(s))
	}
}

func TestNames(t *testing.T) {
	for s, want := range map[string]bool{
		"a": true, "z": true, "A": true, "Z": true, "_": true, "a0": true, "a9": true, "_1": true, "__": true, "aBc_12": true, "if": true, "and": true, strings.Repeat("a", 200000): true,
		"": false, "0": false, "9a": false, "a ": false, " a": false, "a-b": false, "a.b": false, ".a": false, "$a": false, "@a": false, "a\n": false, "a\x00": false, "ä": false, "aä": false, "a\xff": false, "\xff": false, "a:b": false, "a/": false, "a@": false, "a[": false, "a`": false, "a{": false, "@": false, "[": false, "`": false, "{": false, "a#": false,
	} {
		if got := lex.Name(s); got != want {
			t.Errorf("Name(%.30q): %v", s, got)
		}
	}
	for first := range 256 {
		for last := range 256 {
			s := string([]byte{byte(first), byte(last)})
			if got := lex.Name(s); got != (nameForm.FindString(s) == s) {
				t.Errorf("Name(%q): %v", s, got)
			}
		}
	}
}

func TestWords(t *testing.T) {
	chance := rand.New(rand.NewSource(2))
	for _, word := range documentsWords {
		if !lex.Word(word) || !lex.Name(word) {
			t.Errorf("%q: no word, or no name", word)
		}
		at := chance.Intn(len(word))
		for _, near := range []string{strings.ToUpper(word), word + "s", " " + word, word + " ", word[:at], word[at+1:], word + "\x00", "_" + word} {
			if got := lex.Word(near); got != slices.Contains(documentsWords, near) {
				t.Errorf("Word(%q): %v", near, got)
			}
		}
	}
	for _, s := range []string{"", "a", "length", "not", "empty", "null", "true", "false", "import", "include", "fi", "__loc__", ",", "and, as"} {
		if lex.Word(s) {
			t.Errorf("Word(%q): true", s)
		}
	}
}
