package bitmap_test

import (
	"bytes"
	"math/bits"
	"testing"

	"lorgnette/bitmap"
)

func TestSumsUndoPrefix(t *testing.T) {
	for _, x := range masks() {
		p := bitmap.Prefix(x)
		if got := p ^ p<<1; got != x {
			t.Errorf("sums of neighbours of Prefix(%x): %x", x, got)
		}
		if got := bitmap.Prefix(x ^ x<<1); got != x {
			t.Errorf("Prefix of sums of neighbours of %x: %x", x, got)
		}
	}
}

// TestMarksStandOutside asks that no byte has two marks, or one within a string, and that none stands behind the last byte.
func TestMarksStandOutside(t *testing.T) {
	for _, b := range texts() {
		for _, c := range carries() {
			m, _ := bitmap.Scan([]byte(b), c)
			var seen uint64
			for _, mask := range []uint64{m.Open, m.Close, m.Colon, m.Comma, m.Space} {
				if mask&(seen|m.In|m.Quote) != 0 {
					t.Errorf("Scan(%q, %v): %x", b, c, m)
				}
				seen |= mask
			}
			if last := bits.Len64(seen | m.In | m.Quote); last > len(b) {
				t.Errorf("Scan(%q, %v): %x has the bit %d", b, c, m, last-1)
			}
		}
	}
}

// TestQuotesTurnStrings asks that a quote begins a string or ends one, and that nothing else does.
func TestQuotesTurnStrings(t *testing.T) {
	for _, b := range texts() {
		for _, c := range carries() {
			m, behind := bitmap.Scan([]byte(b), c)
			in := c.In
			for i := range min(len(b), 64) {
				if has(m.Quote, i) {
					in = !in
				}
				if has(m.In, i) != in {
					t.Errorf("Scan(%q, %v): %x, byte %d", b, c, m, i)
				}
			}
			if behind.In != in {
				t.Errorf("Scan(%q, %v) leaves %v", b, c, behind)
			}
		}
	}
}

// TestCutsTurnNothing scans texts as two words, cut at each place: what the first one leaves is all that the second one needs.
func TestCutsTurnNothing(t *testing.T) {
	for _, b := range texts() {
		word := []byte(b)[:min(len(b), 64)]
		whole, behind := bitmap.Scan(word, carries()[0])
		for cut := range len(word) {
			first, between := bitmap.Scan(word[:cut], carries()[0])
			second, last := bitmap.Scan(word[cut:], between)
			if first.Quote|second.Quote<<cut != whole.Quote || first.In|second.In<<cut != whole.In || first.Open|second.Open<<cut != whole.Open || last != behind {
				t.Errorf("Scan(%q) cut at %d: %x, %x, %v", b, cut, first, second, last)
			}
		}
	}
}

// TestArgumentsStay hands in a part of a longer list.
func TestArgumentsStay(t *testing.T) {
	for _, b := range texts() {
		room := append([]byte(b), `"\[`...)
		bitmap.Bits(room[:len(b)], '"')
		bitmap.Scan(room[:len(b)], carries()[3])
		if !bytes.Equal(room, []byte(b+`"\[`)) {
			t.Fatalf("%q was changed: %q", b, room)
		}
	}
}
