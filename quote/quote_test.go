package quote_test

import (
	"testing"

	"lorgnette/quote"
)

func checkWritten(t *testing.T, s string) {
	t.Helper()
	if got, want := quote.Quote(s), writtenOf(s, false); got != want {
		t.Errorf("Quote(%q): %q, not %q", s, got, want)
	}
	if got, want := quote.Ascii(s), writtenOf(s, true); got != want {
		t.Errorf("Ascii(%q): %q, not %q", s, got, want)
	}
}

func TestWrittenByHand(t *testing.T) {
	for _, c := range []struct{ s, quoted, ascii string }{
		{"", `""`, `""`},
		{"abc", `"abc"`, `"abc"`},
		{"a\"ä\n", "\"a\\\"ä\\n\"", `"a\"\u00e4\n"`},
		{"\x00\x07\x08\t\n\x0b\x0c\r\x0e", `"\u0000\u0007\b\t\n\u000b\f\r\u000e"`, `"\u0000\u0007\b\t\n\u000b\f\r\u000e"`},
		{"\x1a\x1b\x1e\x1f !", `"\u001a\u001b\u001e\u001f !"`, `"\u001a\u001b\u001e\u001f !"`},
		{`"`, `"\""`, `"\""`},
		{`\`, `"\\"`, `"\\"`},
		{`/`, `"/"`, `"/"`},
		{`\u0041`, `"\\u0041"`, `"\\u0041"`},
		{"~\x7f\u0080", "\"~\\u007f\u0080\"", `"~\u007f\u0080"`},
		{"ÿ", `"ÿ"`, `"\u00ff"`},
		{"\u07ff\u0800", "\"\u07ff\u0800\"", `"\u07ff\u0800"`},
		{"€", `"€"`, `"\u20ac"`},
		{"\ud7ff\ue000", "\"\ud7ff\ue000\"", `"\ud7ff\ue000"`},
		{"\uffff", "\"\uffff\"", `"\uffff"`},
		{"\U00010000", "\"\U00010000\"", `"\ud800\udc00"`},
		{"\U000103ff\U00010400", "\"\U000103ff\U00010400\"", `"\ud800\udfff\ud801\udc00"`},
		{"𝄞", `"𝄞"`, `"\ud834\udd1e"`},
		{"\U0010ffff", "\"\U0010ffff\"", `"\udbff\udfff"`},
		// Bytes that are not sound, alone and beside others.
		{"\xff", `"` + replaced + `"`, `"\ufffd"`},
		{"a\x80b", `"a` + replaced + `b"`, `"a\ufffdb"`},
		{"\xe2\x82", `"` + replaced + replaced + `"`, `"\ufffd\ufffd"`},
		{"\xe2\x82\n", `"` + replaced + replaced + `\n"`, `"\ufffd\ufffd\n"`},
		{"\xed\xa0\x80\"", `"` + replaced + replaced + replaced + `\""`, `"\ufffd\ufffd\ufffd\""`},
		{"\xc0\xa2", `"` + replaced + replaced + `"`, `"\ufffd\ufffd"`},
		{replaced, `"` + replaced + `"`, `"\ufffd"`},
	} {
		if got := quote.Quote(c.s); got != c.quoted {
			t.Errorf("Quote(%q): %q, not %q", c.s, got, c.quoted)
		}
		if got := quote.Ascii(c.s); got != c.ascii {
			t.Errorf("Ascii(%q): %q, not %q", c.s, got, c.ascii)
		}
	}
}

func TestWritten(t *testing.T) {
	for _, s := range plainTexts() {
		checkWritten(t, s)
	}
}

// TestWrittenBytes asks for each byte, alone and behind a beginning of a code point.
func TestWrittenBytes(t *testing.T) {
	for b := range 256 {
		for _, ahead := range []string{"", "a", "\xc3", "\xe2\x82", "\xf0\x9f\x98", `\`} {
			checkWritten(t, ahead+string([]byte{byte(b)}))
			checkWritten(t, ahead+string([]byte{byte(b)})+"a")
		}
	}
}

// TestEveryPoint writes all code points, and reads what was written.
func TestEveryPoint(t *testing.T) {
	for p := range 1114112 {
		s := string(rune(p))
		if p >= 55296 && p <= 57343 {
			continue
		}
		for _, ascii := range []bool{false, true} {
			write := quote.Quote
			if ascii {
				write = quote.Ascii
			}
			written := write(s)
			if want := `"` + pieceOf(p, ascii) + `"`; written != want {
				t.Errorf("%d: %q, not %q", p, written, want)
			}
			if got, n, err := quote.Read([]byte(written)); got != s || n != len(written) || err != 0 {
				t.Errorf("Read(%q): %q, %d, %d", written, got, n, err)
			}
		}
	}
}
