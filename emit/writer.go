package emit

import (
	"bytes"
	"slices"
	"strings"

	"lorgnette/api"
	"lorgnette/dec"
	"lorgnette/quote"
	"lorgnette/utf"
)

// mostBlanks is how many blanks a level is written with at most.
const mostBlanks = 8

// writer writes values that may be, one part behind the other.
type writer struct {
	put    func(string) (int, error) // a buffer's method: it tells no error
	quoted func(string) string
	sorted bool
	lines  bool
	step   string
	margin string // the end of a line, and a step for each bracket that is open
}

// newWriter makes one that writes in a style, to a buffer.
func newWriter(buffer *bytes.Buffer, s api.Style) *writer {
	w := &writer{
		put:    buffer.WriteString,
		quoted: quote.Quote,
		sorted: s.Sort,
		lines:  s.Tab || s.Indent > 0,
		step:   stepOf(s),
		margin: "\n",
	}
	if s.Ascii {
		w.quoted = quote.Ascii
	}
	return w
}

// stepOf is what stands ahead of a line for each bracket that is open.
func stepOf(s api.Style) string {
	if s.Tab {
		return "\t"
	}
	return strings.Repeat(" ", min(max(s.Indent, 0), mostBlanks))
}

// value writes one.
func (w *writer) value(v api.Value) {
	switch v.Kind {
	case api.Null:
		w.put("null")
	case api.False:
		w.put("false")
	case api.True:
		w.put("true")
	case api.Number:
		text, _ := dec.Text(v.Num) // it may be: it has a text
		w.put(text)
	case api.Text:
		w.put(w.quoted(v.Str))
	case api.Array:
		w.array(v.Arr)
	case api.Object:
		w.object(v.Obj)
	}
}

// array writes items.
func (w *writer) array(items []api.Value) {
	w.between("[", "]", len(items), func(i int) {
		w.value(items[i])
	})
}

// object writes fields.
func (w *writer) object(fields []api.Field) {
	if w.sorted {
		fields = byKeys(fields)
	}
	w.between("{", "}", len(fields), func(i int) {
		w.put(w.quoted(fields[i].Key))
		w.put(":")
		if w.lines {
			w.put(" ")
		}
		w.value(fields[i].Val)
	})
}

// byKeys are fields by the order of their keys; what they have is shared, as it is only written.
func byKeys(fields []api.Field) []api.Field {
	return slices.SortedFunc(slices.Values(fields), func(f, g api.Field) int {
		return utf.Cmp(f.Key, g.Key)
	})
}

// between writes so many parts between brackets, each by a function. Brackets with nothing between them have no line of their own.
func (w *writer) between(opening, closing string, count int, part func(i int)) {
	w.put(opening)
	if count > 0 {
		w.parts(count, part)
	}
	w.put(closing)
}

// parts writes what stands between two brackets, one part at least.
func (w *writer) parts(count int, part func(i int)) {
	outside := w.margin
	w.margin += w.step
	for i := range count {
		if i > 0 {
			w.put(",")
		}
		w.line()
		part(i)
	}
	w.margin = outside
	w.line()
}

// line goes on to the next line, if the style has any.
func (w *writer) line() {
	if w.lines {
		w.put(w.margin)
	}
}
