package quote_test

import (
	"encoding/json"
	"fmt"
	"math/rand"
	"regexp"
	"strings"
	"testing"
	"unicode/utf16"
	"unicode/utf8"

	"lorgnette/api"
)

// replaced is the bytes of 65533.
const replaced = "\xef\xbf\xbd"

// grammar is a text in quotes, over bytes that were widened: each one is a sign of its own.
var grammar = regexp.MustCompile(`^"(?:[ !#-\[\]-\x7f]` +
	`|[\xc2-\xdf][\x80-\xbf]` +
	`|\xe0[\xa0-\xbf][\x80-\xbf]|[\xe1-\xec\xee\xef][\x80-\xbf]{2}|\xed[\x80-\x9f][\x80-\xbf]` +
	`|\xf0[\x90-\xbf][\x80-\xbf]{2}|[\xf1-\xf3][\x80-\xbf]{3}|\xf4[\x80-\x8f][\x80-\xbf]{2}` +
	`|\\["\\/bfnrt]|\\u[0-9a-fA-F]{4})*"`)

func widened(b string) string {
	var w strings.Builder
	for i := range len(b) {
		w.WriteRune(rune(b[i]))
	}
	return w.String()
}

// sizeOf is how many bytes the text in quotes has that b begins with; 0, if there is none.
func sizeOf(b string) int {
	return utf8.RuneCountInString(grammar.FindString(widened(b)))
}

func isWhole(b string) bool {
	return b != "" && sizeOf(b) == len(b)
}

// mayGoOn tells whether b begins a text in quotes, by trying what may stand behind it.
func mayGoOn(b string) bool {
	for _, more := range []string{"", `"`, `""`, `n"`, `0"`, `00"`, `000"`, `0000"`} {
		if isWhole(b + more) {
			return true
		}
	}
	for _, c := range []string{"\x80", "\x8f", "\x90", "\x9f", "\xa0", "\xbf"} {
		for n := 1; n <= 3; n++ {
			if isWhole(b + strings.Repeat(c, n) + `"`) {
				return true
			}
		}
	}
	return false
}

// answer is what Read tells.
type answer struct {
	s   string
	n   int
	err api.Errno
}

func (a answer) String() string {
	return fmt.Sprintf("%q, %d, %d", a.s, a.n, a.err)
}

// faultOf is what Read should tell of bytes that begin with no text in quotes.
func faultOf(b string) answer {
	k := 0
	for k < len(b) && mayGoOn(b[:k+1]) {
		k++
	}
	if k == len(b) {
		return answer{"", k, api.ErrShort}
	}
	if k > 0 && b[k-1] > 127 { // perhaps within a code point: then it is its first byte that counts
		for !isWhole(b[:k] + `"`) {
			k--
		}
	}
	if b[k] > 127 {
		return answer{"", k, api.ErrBytes}
	}
	return answer{"", k, api.ErrForm}
}

// told is what Read should tell, by the grammar, and by the library's reader of what stands in its texts.
func told(t *testing.T, b string) answer {
	t.Helper()
	n := sizeOf(b)
	if n == 0 {
		return faultOf(b)
	}
	var s string
	if err := json.Unmarshal([]byte(b[:n]), &s); err != nil {
		t.Fatalf("%q: %v", b[:n], err)
	}
	return answer{s, n, api.OK}
}

// pieceOf is the piece that a code point is written as.
func pieceOf(p int, ascii bool) string {
	letters := map[int]string{34: `\"`, 92: `\\`, 8: `\b`, 9: `\t`, 10: `\n`, 12: `\f`, 13: `\r`}
	high, low := utf16.EncodeRune(rune(p))
	switch {
	case letters[p] != "":
		return letters[p]
	case p < 32 || p == 127:
		return fmt.Sprintf(`\u00%02x`, p)
	case p < 128 || !ascii:
		return string(rune(p))
	case p < 65536:
		return fmt.Sprintf(`\u%04x`, p)
	default:
		return fmt.Sprintf(`\u%04x\u%04x`, high, low)
	}
}

// writtenOf is what Quote and Ascii should tell.
func writtenOf(s string, ascii bool) string {
	var b strings.Builder
	for _, r := range s {
		b.WriteString(pieceOf(int(r), ascii))
	}
	return `"` + b.String() + `"`
}

// edgePoints are the code points beside each border that the document names.
func edgePoints() []int {
	return []int{0, 1, 7, 8, 9, 10, 11, 12, 13, 14, 31, 32, 33, 34, 35, 46, 47, 48, 65, 91, 92, 93, 98, 117, 126, 127, 128, 129, 228, 255, 256, 2047, 2048, 4095, 4096, 8364, 55295, 57344, 65532, 65533, 65534, 65535, 65536, 65537, 66559, 66560, 119070, 128512, 1113087, 1113088, 1114110, 1114111}
}

// wrongBytes are bytes that begin with no code point's bytes.
func wrongBytes() []string {
	return []string{
		// Cut off.
		"\xc2", "\xdf", "\xe0", "\xe2", "\xed", "\xef", "\xe0\xa0", "\xe0\xbf", "\xe2\x82", "\xed\x80", "\xed\x9f", "\xef\xbf", "\xf0", "\xf3", "\xf4", "\xf0\x90", "\xf0\x9f\x98", "\xf4\x80", "\xf4\x8f", "\xf4\x8f\xbf",
		// Bytes that go on, with none ahead of them.
		"\x80", "\xbf", "\x80\x80\x80",
		// Forms longer than need be.
		"\xc0", "\xc1", "\xc0\x80", "\xc0\xa2", "\xc1\x9c", "\xe0\x80", "\xe0\x9f", "\xe0\x80\xa2", "\xe0\x9f\xbf", "\xf0\x80", "\xf0\x8f", "\xf0\x8f\xbf\xbf",
		// What would be 55296 to 57343; 1114112, and above; first bytes of forms that there are not.
		"\xed\xa0", "\xed\xbf", "\xed\xa0\x80", "\xed\xbf\xbf", "\xed\xa0\xb4\xed\xb4\x9e", "\xf4\x90", "\xf4\x90\x80\x80", "\xf5", "\xf5\x80\x80\x80", "\xf7\xbf\xbf\xbf", "\xf8\x88\x80\x80\x80", "\xfe", "\xff", "\xff\xff",
	}
}

// partsOfTexts are what tests put texts in quotes together of, right and wrong.
func partsOfTexts() []string {
	all := append(wrongBytes(), `"`, `\`, `\u`, `\u0`, `\u12`, `\uabc`, `\u12G4`, `\x`, `\"`, `\\`, `\/`, `\b`, `\f`, `\n`, `\r`, `\t`, `\u0041`, `\u00e4`, `\u20AC`, `\ud834`, `\uDD1E`, `\ud834\udd1e`, `\udbff\udfff`, `\ud7ff`, `\ue000`, `\u0000`, `\u0022`, "/", "u", "d", "{", "\x7f", "\x1f", "\n", "\x00")
	for _, p := range edgePoints() {
		if p >= 32 {
			all = append(all, string(rune(p)))
		}
	}
	return all
}

// quotedTexts are texts in quotes, and what is nearly one: each part alone, and many in a row, the same at each run.
func quotedTexts() []string {
	all := []string{"", `"`, `""`, "a", `'a'`, " \"\"", "\x00", "\xff", "\xe2\x82\xac", "\xe2\x82", `\"a"`}
	parts := partsOfTexts()
	for _, part := range parts {
		all = append(all, part, `"`+part, `"`+part+`"`, `"`+part+`a"`, `"`+part+`" `, `"a`+part+`"`, `"aä€😀`+part, `"\n`+part+part+`"`, `""`+part, `"a"`+part)
	}
	chance := rand.New(rand.NewSource(5))
	for range 3000 {
		text := `"`
		for range chance.Intn(8) {
			text += parts[chance.Intn(len(parts))]
		}
		all = append(all, text, text+`"`, text+`"x`)
	}
	return all
}

// plainTexts are what is quoted: each edge and each wrong byte alone and with others beside it, and many in a row.
func plainTexts() []string {
	all := []string{"", "abc", `a"ä` + "\n", `\`, `\\`, `\n`, `\u0041`, `"`, `""`, "/", "</script>", strings.Repeat("aä€😀\n", 2000)}
	parts := wrongBytes()
	for _, p := range edgePoints() {
		parts = append(parts, string(rune(p)))
	}
	for _, part := range parts {
		all = append(all, part, part+"a", "a"+part, "a"+part+"b", part+part, "😀"+part+"€")
	}
	chance := rand.New(rand.NewSource(55))
	for range 3000 {
		text := ""
		for range chance.Intn(8) {
			text += parts[chance.Intn(len(parts))]
		}
		all = append(all, text)
	}
	return all
}
