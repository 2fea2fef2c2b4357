package lex_test

import (
	"strings"
	"testing"

	"lorgnette/api"
	"lorgnette/lex"
)

func TestFaultsByHand(t *testing.T) {
	for s, want := range map[string]answer{
		// Bytes that begin no token.
		"!": {at: 0, err: api.ErrForm}, "a!b": {at: 1, err: api.ErrForm}, "a! =b": {at: 1, err: api.ErrForm}, "1 ~": {at: 2, err: api.ErrForm}, "&": {err: api.ErrForm}, "^": {err: api.ErrForm}, "'a'": {err: api.ErrForm}, "`": {err: api.ErrForm}, `\`: {err: api.ErrForm}, `\(1)`: {err: api.ErrForm}, "1\x00": {at: 1, err: api.ErrForm}, "\x7f": {err: api.ErrForm}, "1\f2": {at: 1, err: api.ErrForm}, "1\v2": {at: 1, err: api.ErrForm}, "ä": {err: api.ErrForm}, "aä": {at: 1, err: api.ErrForm}, ".ä": {at: 1, err: api.ErrForm}, ".a\u00a0": {at: 2, err: api.ErrForm}, "\ufeff.": {err: api.ErrForm}, "1 # !\n !": {at: 7, err: api.ErrForm}, `"\(!)"`: {at: 3, err: api.ErrForm}, `"a"!`: {at: 3, err: api.ErrForm},
		// No name behind.
		"$": {err: api.ErrForm}, "@": {err: api.ErrForm}, "a|$": {at: 2, err: api.ErrForm}, "$ a": {err: api.ErrForm}, "@ a": {err: api.ErrForm}, "$1": {err: api.ErrForm}, "@1": {err: api.ErrForm}, "$$a": {err: api.ErrForm}, "$.a": {err: api.ErrForm}, "@@a": {err: api.ErrForm}, "$#\na": {err: api.ErrForm}, "$ä": {err: api.ErrForm}, `"\($)"`: {at: 3, err: api.ErrForm}, `@"a"`: {err: api.ErrForm},
		// Pieces that are none, or can't go on.
		`"\x"`: {at: 1, err: api.ErrForm}, `"\x`: {at: 1, err: api.ErrForm}, `"ab\q"`: {at: 3, err: api.ErrForm}, `"\ "`: {at: 1, err: api.ErrForm}, `"\)"`: {at: 1, err: api.ErrForm}, `"\U0041"`: {at: 1, err: api.ErrForm}, `"\'"`: {at: 1, err: api.ErrForm}, "\"\\\n\"": {at: 1, err: api.ErrForm}, `"\ä"`: {at: 1, err: api.ErrForm}, `"\n\x"`: {at: 3, err: api.ErrForm}, `"\\\x"`: {at: 3, err: api.ErrForm}, `"\u0041\x"`: {at: 7, err: api.ErrForm}, `"\(1)\x"`: {at: 5, err: api.ErrForm}, `"\("\x")"`: {at: 4, err: api.ErrForm},
		`"\u"`: {at: 1, err: api.ErrForm}, `"\u1"`: {at: 1, err: api.ErrForm}, `"\u12"`: {at: 1, err: api.ErrForm}, `"\u123"`: {at: 1, err: api.ErrForm}, `"\u123g"`: {at: 1, err: api.ErrForm}, `"\ug"`: {at: 1, err: api.ErrForm}, `"\ug`: {at: 1, err: api.ErrForm}, `"\u12\(1)"`: {at: 1, err: api.ErrForm}, `"\u12\n"`: {at: 1, err: api.ErrForm}, `"\u12\`: {at: 1, err: api.ErrForm}, `"\u12\"`: {at: 1, err: api.ErrForm}, `"\u12ä"`: {at: 1, err: api.ErrForm}, `"\u123ä"`: {at: 1, err: api.ErrForm}, `"\u 0041"`: {at: 1, err: api.ErrForm}, `"\ud834\x"`: {at: 7, err: api.ErrForm}, `"\ud834\u12"`: {at: 7, err: api.ErrForm}, `"\ud834\ud83"`: {at: 7, err: api.ErrForm}, `"\n\\\u12"`: {at: 5, err: api.ErrForm}, `"a\u00e4\u00E4b\u00e"`: {at: 15, err: api.ErrForm},
		// Texts that aren't ended.
		`"`: {at: 1, err: api.ErrShort}, `"a`: {at: 2, err: api.ErrShort}, `1 "a" "`: {at: 7, err: api.ErrShort}, `"a\"`: {at: 4, err: api.ErrShort}, `"\`: {at: 2, err: api.ErrShort}, `"ab\n\`: {at: 6, err: api.ErrShort}, `"\u`: {at: 3, err: api.ErrShort}, `"\u12`: {at: 5, err: api.ErrShort}, `"\u123`: {at: 6, err: api.ErrShort}, `"\u1234`: {at: 7, err: api.ErrShort}, `"\ud834\`: {at: 8, err: api.ErrShort}, `"\ud834\ud`: {at: 10, err: api.ErrShort}, `"\ud834`: {at: 7, err: api.ErrShort}, `"\(`: {at: 3, err: api.ErrShort}, `"\(1`: {at: 4, err: api.ErrShort}, `"\(1)`: {at: 5, err: api.ErrShort}, `"\((1)`: {at: 6, err: api.ErrShort}, `"\((1)"`: {at: 7, err: api.ErrShort}, `"\("a"`: {at: 6, err: api.ErrShort}, `"\("a")`: {at: 7, err: api.ErrShort}, `"\(1 # )"`: {at: 9, err: api.ErrShort}, `"\( `: {at: 4, err: api.ErrShort}, `"\(]"`: {at: 5, err: api.ErrShort}, `"ä`: {at: 3, err: api.ErrShort}, `"a"b"`: {at: 5, err: api.ErrShort},
		// The first one counts.
		`$ "`: {at: 0, err: api.ErrForm}, `"\($`: {at: 3, err: api.ErrForm}, `"\x\y`: {at: 1, err: api.ErrForm}, `!"\x"`: {at: 0, err: api.ErrForm}, `"\x"!`: {at: 1, err: api.ErrForm},
		// Bytes that aren't sound, ahead of all of these.
		"\xff": {at: 0, err: api.ErrBytes}, "a\xff": {at: 1, err: api.ErrBytes}, "$ ! \" \xff": {at: 6, err: api.ErrBytes}, "\"a\xffb\"": {at: 2, err: api.ErrBytes}, "#\xff\n": {at: 1, err: api.ErrBytes}, "ä\x80": {at: 2, err: api.ErrBytes}, "\"\\x\xe2\x82\"": {at: 3, err: api.ErrBytes}, "\"\xe2\x82": {at: 1, err: api.ErrBytes}, "\"\xed\xa0\x80\"": {at: 1, err: api.ErrBytes}, "\"\xc0\x80\"": {at: 1, err: api.ErrBytes}, "\"\xf4\x90\x80\x80\"": {at: 1, err: api.ErrBytes}, "\"\\u12\xff": {at: 5, err: api.ErrBytes}, "\xc3": {at: 0, err: api.ErrBytes},
	} {
		wrong(t, s, want.at, want.err)
	}
}

// TestSizes goes up to what a filter's text may have, and beyond.
func TestSizes(t *testing.T) {
	blanks := strings.Repeat(" ", 100000)
	right(t, blanks)
	right(t, blanks[1:]+"1", number(99999, "1"))
	right(t, strings.Repeat("a", 100000), name(0, strings.Repeat("a", 100000)))
	right(t, `"`+strings.Repeat("ä", 49999)+`"`, open(0), text(1, strings.Repeat("ä", 49999)), shut(99999))
	wrong(t, blanks[1:]+"!", 99999, api.ErrForm)
	wrong(t, `"`+blanks[1:], 100000, api.ErrShort)
	wrong(t, blanks[1:]+`"`, 100000, api.ErrShort)
	wrong(t, blanks[1:]+"\xff", 99999, api.ErrBytes)
	for _, s := range []string{blanks + " ", blanks + "1", blanks + "!", "!" + blanks, "\xff" + blanks, `"` + blanks, blanks + blanks, strings.Repeat("\xff", 100001)} {
		wrong(t, s, 0, api.ErrSize)
	}
}

// TestDepths asks that the quote is told that is one too many, whatever is behind it.
func TestDepths(t *testing.T) {
	within := strings.Repeat(`"\(`, 50)
	wrong(t, within+`"`, 150, api.ErrDepth)
	wrong(t, within+`"\(`, 150, api.ErrDepth)
	wrong(t, within+` ( "a" ! \`, 153, api.ErrDepth)
	wrong(t, within+`! "`, 150, api.ErrForm)
	wrong(t, within, 150, api.ErrShort)
	wrong(t, within+"1", 151, api.ErrShort)
	wrong(t, within+"\"\xff", 151, api.ErrBytes)
	wrong(t, within+`) \("`, 154, api.ErrDepth)
	wrong(t, within+`)" "a"`, 156, api.ErrShort) // behind the fiftieth one's end
	wrong(t, within+`)" "\("a"`, 156, api.ErrDepth)
}

// TestOftenTheSame goes through texts of the greatest size that are all of one kind: none takes long, and none panics.
func TestOftenTheSame(t *testing.T) {
	for _, part := range []string{"(", ")", ".", "..", "1", "a", "$a", "@a", "\"", `""`, `"\(`, `"\()"`, `\`, `\n`, `\u0041`, `\ud834`, `\u12`, "#", "#\n", "e", "1e", "1.", "ä", "//="} {
		s := strings.Repeat(part, 100000/len(part))
		given(t, s, modelOf(s))
		if !strings.HasPrefix(part, `"`) {
			l, at, err := lex.Tokens(`"` + s[2:] + `"`)
			if err == api.OK && (len(l) != 3 || at != 0) {
				t.Errorf("%q: %d tokens, at %d", part, len(l), at)
			}
		}
	}
}
