package valid_test

import (
	"encoding/json"
	"testing"
	"unicode/utf8"

	"lorgnette/valid"
)

func TestOneByHand(t *testing.T) {
	for b, want := range map[string]bool{
		"null": true, "true": true, "false": true, "0": true, "-0": true, "12": true, "-1.50e+03": true, "1e99999": true, `""`: true, `"a b"`: true, `"\ud834"`: true, `"ä"`: true, "[]": true, "{}": true, "[ ]": true, "{ }": true, "[1, {}]": true, `{"a":1,"a":2}`: true, `{ "a" : [ ] }`: true, `" "`: true,
		// Nothing, blanks ahead or behind, and more than one.
		"": false, " ": false, " 1": false, "1 ": false, "\n[]": false, "[]\n": false, "true\t": false, `"a" `: false, ` "a"`: false, "\r{}": false, "1 2": false, "[] []": false, "[][]": false, "truefalse": false, "[1]2": false, `"""`: false, "1,2": false,
		// None.
		"01": false, "1.": false, "-": false, "tru": false, "truex": false, `"a`: false, `"\x"`: false, "\"\n\"": false, "\"\xff\"": false, "[": false, "]": false, "[1,]": false, "[}": false, "{1:2}": false, `{"a"}`: false, `{"a":1,}`: false, "\x00": false, "NaN": false, "\ufeff1": false,
	} {
		if got := valid.One([]byte(b)); got != want {
			t.Errorf("One(%q): %v", b, got)
		}
	}
	if valid.One(nil) {
		t.Error("nothing is one text")
	}
}

// TestOneIsTheLibrarys holds One against the library's reader, where bytes are code points.
func TestOneIsTheLibrarys(t *testing.T) {
	for _, b := range streams() {
		ends := b != "" && b[0] > ' ' && b[len(b)-1] > ' '
		if want := ends && utf8.ValidString(b) && json.Valid([]byte(b)); valid.One([]byte(b)) != want {
			t.Errorf("One(%q): %v", b, !want)
		}
	}
}
