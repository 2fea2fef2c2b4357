package marks

import (
	"lorgnette/api"
	"lorgnette/bitmap"
)

// size is how many bytes a word of masks tells of.
const size = 64

// maker makes an index, a word at a time.
type maker struct {
	index api.Index
	carry api.Carry
	word  [size]byte // the bytes that have no masks yet
	held  int        // how many these are
}

// Build is a text's index.
func Build(b []byte) api.Index {
	return Chunks([][]byte{b})
}

// Chunks is the index of pieces.
func Chunks(l [][]byte) api.Index {
	var m maker
	for _, piece := range l {
		m.add(piece)
	}
	if m.held > 0 {
		m.scan()
	}
	return m.index
}

// add takes a piece in.
func (m *maker) add(piece []byte) {
	m.index.Len += len(piece)
	for len(piece) > 0 {
		n := copy(m.word[m.held:], piece)
		piece = piece[n:]
		m.held += n
		if m.held == size {
			m.scan()
		}
	}
}

// scan lays down the masks of the bytes that are held, and holds none any more.
func (m *maker) scan() {
	masks, carry := bitmap.Scan(m.word[:m.held], m.carry)
	m.index.Words = append(m.index.Words, masks)
	m.carry = carry
	m.held = 0
}
