package quote_test

import (
	"testing"

	"lorgnette/api"
	"lorgnette/quote"
)

func TestPlainByHand(t *testing.T) {
	for b, want := range map[string]bool{
		`""`: true, `"abc"`: true, `"a\"\\\b\t\n\f\r/"`: true, `"\u0000\u001f\u007f"`: true, `"ä€😀"`: true, `"` + replaced + `"`: true, "\"\u0080\"": true, `"\\u0041"`: true,
		// Other ways to write the same.
		`"\/"`: false, `"\u0041"`: false, `"\u0022"`: false, `"\u005c"`: false, `"\u000a"`: false, `"\u0008"`: false, `"\u001F"`: false, `"\u007F"`: false, "\"\x7f\"": false, `"\u00e4"`: false, `"\ud834\udd1e"`: false, `"\ud834"`: false, `"\ufffd"`: false,
		// No texts in quotes, and more than one.
		``: false, `"`: false, `a`: false, `"a`: false, `"a"b`: false, `"a" `: false, ` "a"`: false, `"a""b"`: false, `"\x"`: false, `"\`: false, `"\"`: false, "\"\n\"": false, "\"\xff\"": false, "\"\xe2\x82": false, "\"\xe2\x82\"": false,
	} {
		if got := quote.Plain([]byte(b)); got != want {
			t.Errorf("Plain(%q): %t", b, got)
		}
	}
}

// TestPlain asks for all kinds of texts: a plain one is that which is told again when what it stands for is written.
func TestPlain(t *testing.T) {
	for _, b := range quotedTexts() {
		want := told(t, b)
		plain := want.err == api.OK && want.n == len(b) && writtenOf(want.s, false) == b
		if got := quote.Plain([]byte(b)); got != plain {
			t.Errorf("Plain(%q): %t", b, got)
		}
	}
	for _, s := range plainTexts() {
		if !quote.Plain([]byte(quote.Quote(s))) {
			t.Errorf("Plain of Quote(%q): false", s)
		}
		if b := quote.Ascii(s); quote.Plain([]byte(b)) != (b == writtenOf(s, false)) {
			t.Errorf("Plain(%q): %t", b, quote.Plain([]byte(b)))
		}
	}
}

func TestIsByHand(t *testing.T) {
	for _, c := range []struct {
		b, key string
		want   bool
	}{
		{`""`, "", true}, {`"ab"`, "ab", true}, {`"\u0061b"`, "ab", true}, {`"a\/b"`, "a/b", true}, {`"ä"`, "ä", true}, {`"\u00E4"`, "ä", true}, {`"\ud834\udd1e"`, "𝄞", true}, {`"𝄞"`, "𝄞", true}, {`"\""`, `"`, true}, {`"\u0000"`, "\x00", true}, {`"\\n"`, `\n`, true},
		{`"\ud834"`, replaced, true}, {`"\ufffd"`, replaced, true}, {`"` + replaced + `"`, replaced, true}, {`"\udd1e\ud834"`, replaced + replaced, true},
		// Longer, shorter, other.
		{`"ab"`, "a", false}, {`"ab"`, "abc", false}, {`"ab"`, "b", false}, {`"ab"`, "", false}, {`""`, "a", false}, {`"ab"`, "aB", false}, {`"ab"`, `"ab"`, false}, {`"ä"`, "a\u0308", false}, {`"\n"`, `\n`, false}, {`""`, "\x00", false}, {`"\u00e4"`, "\xc3", false},
		// Keys that are not sound: no text stands for them.
		{`"\ufffd"`, "\xff", false}, {`"` + replaced + `"`, "\xff", false}, {`"\ud834"`, "\xed\xa0\xb4", false}, {`"\ud834\udd1e"`, "\xed\xa0\xb4\xed\xb4\x9e", false}, {`"a"`, "a\xff", false}, {`"ä"`, "\xc3\xa4\xa4", false}, {`""`, "\xff", false}, {"\"\xff\"", "\xff", false}, {"\"\xff\"", replaced, false}, {"\"\xe2\x82\"", "\xe2\x82", false},
		// No texts in quotes, and more than one.
		{``, "", false}, {`"`, "", false}, {`a`, "a", false}, {`ab`, "ab", false}, {`"ab`, "ab", false}, {`"ab"x`, "ab", false}, {`"ab"x`, "abx", false}, {`"ab" `, "ab", false}, {` "ab"`, "ab", false}, {`"""`, "", false}, {`""""`, "", false}, {`"ab""ab"`, "ab", false}, {`"\x"`, "x", false}, {`"a\`, "a", false}, {`"a\u12"`, "a", false}, {"\"a\n\"", "a\n", false}, {"\"a\xe2\x82", "a", false},
	} {
		if got := quote.Is([]byte(c.b), c.key); got != c.want {
			t.Errorf("Is(%q, %q): %t", c.b, c.key, got)
		}
	}
}

// TestIs holds all kinds of texts against what they stand for, and against keys nearby.
func TestIs(t *testing.T) {
	for _, b := range quotedTexts() {
		stands := told(t, b)
		whole := stands.err == api.OK && stands.n == len(b)
		keys := []string{stands.s, stands.s + "a", stands.s + "\xff", "a" + stands.s, "\xff" + stands.s, "", b, replaced, "\xff"}
		for cut := range stands.s {
			keys = append(keys, stands.s[:cut], stands.s[cut:], stands.s[:cut]+"\xff"+stands.s[cut+1:])
		}
		for _, key := range keys {
			if got := quote.Is([]byte(b), key); got != (whole && key == stands.s) {
				t.Errorf("Is(%q, %q): %t", b, key, got)
			}
		}
	}
}
