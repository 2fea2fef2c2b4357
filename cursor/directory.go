package cursor

import (
	"slices"
	"sort"

	"lorgnette/api"
	"lorgnette/marks"
	"lorgnette/parens"
)

// directory tells where something stands in a text, by its places in a Doc's bytes, and which brackets belong together.
type directory struct {
	marks    []api.Mark
	brackets []int          // which of the marks are brackets
	pairs    *parens.Vector // of the brackets
}

// directoryOf makes that of the text at a span.
func directoryOf(b []byte, s api.Span) directory {
	text := b[s.From:s.To]
	d := directory{marks: marks.Marks(text), pairs: parens.New(marks.Brackets(marks.Build(text)))}
	for k := range d.marks {
		d.marks[k].At += s.From
		switch d.marks[k].Kind {
		case '[', '{', ']', '}':
			d.brackets = append(d.brackets, k)
		}
	}
	return d
}

// markAt finds the mark at a place.
func (d *directory) markAt(place int) (int, bool) {
	k := sort.Search(len(d.marks), func(k int) bool { return d.marks[k].At >= place })
	return k, k < len(d.marks) && d.marks[k].At == place
}

// begins tells whether a text begins at a mark.
func (d *directory) begins(k int) bool {
	switch d.marks[k].Kind {
	case '[', '{', '"', '0':
		return true
	}
	return false
}

// closing is the mark of the bracket that closes the one at a mark.
func (d *directory) closing(k int) int {
	return d.brackets[d.pairs.Close(d.bracket(k))]
}

// bracket is the number of the bracket at a mark.
func (d *directory) bracket(k int) int {
	i, _ := slices.BinarySearch(d.brackets, k)
	return i
}

// behind is the mark that follows the text that begins at a mark, whether there is one or not.
func (d *directory) behind(k int) int {
	switch d.marks[k].Kind {
	case '[', '{':
		return d.closing(k) + 1
	}
	return k + 1
}

// beginning is the mark at which the text begins whose last mark is given.
func (d *directory) beginning(k int) int {
	switch d.marks[k].Kind {
	case ']', '}':
		return d.brackets[d.pairs.Open(d.bracket(k))]
	}
	return k
}
