package bitmap

import (
	"lorgnette/api"
)

// Scan makes the masks of a word, and what it leaves to the next one.
func Scan(b []byte, c api.Carry) (api.Masks, api.Carry) {
	b = b[:min(len(b), size)]
	escaped, odd := Escaped(Bits(b, '\\'), c.Odd)
	quotes := Bits(b, '"') &^ escaped
	inside, in := Inside(quotes, c.In)
	if len(b) < size { // the byte behind the last one has a bit of its own
		odd, in = isSet(escaped, len(b)), isSet(inside, len(b))
	}
	return api.Masks{
		Quote: quotes,
		In:    inside & firstBits(len(b)),
		Open:  anyOf(b, "[{") &^ inside,
		Close: anyOf(b, "]}") &^ inside,
		Colon: Bits(b, ':') &^ inside,
		Comma: Bits(b, ',') &^ inside,
		Space: anyOf(b, " \t\n\r") &^ inside,
	}, api.Carry{Odd: odd, In: in}
}

// anyOf tells where any of the signs stands.
func anyOf(b []byte, signs string) uint64 {
	var mask uint64
	for i := range len(signs) {
		mask |= Bits(b, signs[i])
	}
	return mask
}

// firstBits has the bits below n: of all 64, the shift leaves nothing, and 1 less wraps round.
func firstBits(n int) uint64 {
	return 1<<n - 1
}
