package emit_test

import (
	"bytes"
	"encoding/json"
	"strings"
	"testing"

	"lorgnette/api"
	"lorgnette/dec"
	"lorgnette/quote"
)

// partsOf are the parts of a value's text in one line: brackets, commas and colons are one each.
func partsOf(v api.Value, s api.Style) []string {
	switch v.Kind {
	case api.Null, api.False, api.True:
		return []string{[]string{"null", "false", "true"}[v.Kind]}
	case api.Number:
		number, _ := dec.Text(v.Num)
		return []string{number}
	case api.Text:
		return []string{quotedFor(v.Str, s)}
	case api.Array:
		parts := []string{"["}
		for i, item := range v.Arr {
			if i > 0 {
				parts = append(parts, ",")
			}
			parts = append(parts, partsOf(item, s)...)
		}
		return append(parts, "]")
	}
	parts := []string{"{"}
	for i, f := range arranged(v, s).Obj {
		if i > 0 {
			parts = append(parts, ",")
		}
		parts = append(parts, quotedFor(f.Key, s), ":")
		parts = append(parts, partsOf(f.Val, s)...)
	}
	return append(parts, "}")
}

func quotedFor(s string, style api.Style) string {
	if style.Ascii {
		return quote.Ascii(s)
	}
	return quote.Quote(s)
}

// textOf is a value's text in the document's words: in one line first, then with its lines.
func textOf(v api.Value, s api.Style) string {
	parts := partsOf(v, s)
	step, hasLines := stepFor(s)
	if !hasLines {
		return strings.Join(parts, "")
	}
	var out strings.Builder
	open := 0
	for i, part := range parts {
		closes := part == "]" || part == "}"
		if closes {
			open--
		}
		if closes && parts[i-1] != "[" && parts[i-1] != "{" {
			out.WriteString("\n" + strings.Repeat(step, open))
		}
		out.WriteString(part)
		opens := part == "[" || part == "{"
		if opens {
			open++
		}
		if part == "," || opens && parts[i+1] != "]" && parts[i+1] != "}" {
			out.WriteString("\n" + strings.Repeat(step, open))
		}
		if part == ":" {
			out.WriteString(" ")
		}
	}
	return out.String()
}

// TestTextOfAny holds texts of any values against the document's words.
func TestTextOfAny(t *testing.T) {
	m := newMaker(1)
	for range 1500 {
		v := m.value(5)
		for _, s := range styles {
			written(t, v, s, textOf(v, s), api.OK)
		}
	}
}

// TestTextOfLibrary holds the lines against those that the library lays into a text of one line, which is sound for it.
func TestTextOfLibrary(t *testing.T) {
	m := newMaker(2)
	for range 2000 {
		v := m.value(5)
		one := []byte(textOf(v, api.Style{}))
		if !json.Valid(one) {
			t.Fatalf("%q isn't JSON", one)
		}
		for _, s := range lines {
			if s.Sort || s.Ascii {
				continue
			}
			var b bytes.Buffer
			step, _ := stepFor(s)
			if err := json.Indent(&b, one, "", step); err != nil {
				t.Fatal(err)
			}
			written(t, v, s, b.String(), api.OK)
		}
	}
}
