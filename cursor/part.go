package cursor

import (
	"bytes"
	"slices"

	"lorgnette/api"
	"lorgnette/valid"
)

const blanks = " \t\n\r"

// keyMarks is how many marks an entry's key and colon have, ahead of its text.
const keyMarks = 2

// part is a text that a Doc's directory shows: the one that begins at the mark.
type part struct {
	doc  *Doc
	mark int
}

// look counts a look, and finds the part that a span is, which is to be of one of the kinds, if any are said.
func (d *Doc) look(s api.Span, kinds ...int) (part, api.Errno) {
	if d == nil {
		return part{}, api.ErrArg
	}
	d.looks.Add(1)
	p, ok := d.find(s)
	switch {
	case !ok:
		return part{}, api.ErrArg
	case len(kinds) > 0 && !slices.Contains(kinds, p.kind()):
		return part{}, api.ErrKind
	}
	return p, api.OK
}

// find finds the part that a span is. One that the directory doesn't show stands within a text in quotes or a number, or reaches from one text in quotes into another: it has a directory of its own, as if nothing stood around it.
func (d *Doc) find(s api.Span) (part, bool) {
	if p, ok := d.shown(s); ok {
		return p, true
	}
	if s.From < 0 || s.To > len(d.b) || s.From > s.To || !valid.One(d.b[s.From:s.To]) {
		return part{}, false
	}
	alone := &Doc{b: d.b, root: s}
	return alone.shown(s)
}

// shown finds the text at a span, if the directory shows it.
func (d *Doc) shown(s api.Span) (part, bool) {
	d.once.Do(func() { d.directory = directoryOf(d.b, d.root) })
	k, ok := d.markAt(s.From)
	if !ok {
		return part{}, false
	}
	p := part{d, k}
	return p, d.begins(k) && p.span() == s
}

// span is where the part stands. It ends where the next mark stands, but for blanks.
func (p part) span() api.Span {
	d := p.doc
	from, to := d.marks[p.mark].At, d.root.To
	if next := d.behind(p.mark); next < len(d.marks) {
		to = d.marks[next].At
	}
	return api.Span{From: from, To: from + len(bytes.TrimRight(d.b[from:to], blanks))}
}

// bytes are the part's, as they stand.
func (p part) bytes() []byte {
	s := p.span()
	return p.doc.b[s.From:s.To]
}

// kind is the part's. Its first byte tells it.
func (p part) kind() int {
	switch p.doc.b[p.doc.marks[p.mark].At] {
	case 'n':
		return api.Null
	case 'f':
		return api.False
	case 't':
		return api.True
	case '"':
		return api.Text
	case '[':
		return api.Array
	case '{':
		return api.Object
	}
	return api.Number
}

// texts tells the texts that stand in an array, or in an object's entries, one by one, to who ranges over it.
func (p part) texts(yield func(part) bool) {
	d, ahead := p.doc, p.ahead()
	last := d.closing(p.mark)
	for k := p.mark + 1; k < last; k++ { // past the comma
		k += ahead
		if !yield(part{d, k}) {
			return
		}
		k = d.behind(k)
	}
}

// textsBack tells the same, from the last one to the first one.
func (p part) textsBack(yield func(part) bool) {
	d, ahead := p.doc, p.ahead()
	for k := d.closing(p.mark) - 1; k > p.mark; k-- { // past the comma
		k = d.beginning(k)
		if !yield(part{d, k}) {
			return
		}
		k -= ahead + 1
	}
}

// ahead is how many marks stand ahead of a text in an array or an object, that belong to it.
func (p part) ahead() int {
	if p.kind() == api.Object {
		return keyMarks
	}
	return 0
}

// key is the key of an entry, whose text is given.
func (p part) key() part {
	return part{p.doc, p.mark - keyMarks}
}
