package limb

import (
	"math/bits"
	"sort"

	"lorgnette/api"
)

// DivMod divides, limb by limb from the highest.
func DivMod(a, b []uint32) ([]uint32, []uint32, api.Errno) {
	x, y := Norm(a), Norm(b)
	if len(y) == 0 {
		return nil, nil, api.ErrZero
	}
	if len(x) < len(y) {
		return nil, x, api.OK
	}
	quotient := make([]uint32, len(x)-len(y)+1)
	rest := append(x, 0) // so that the highest window too has a limb more than y
	for i := range len(quotient) {
		at := len(quotient) - 1 - i
		window := rest[at : at+len(y)+1]
		times := timesIn(window, y)
		takeOff(window, y, times)
		quotient[at] = uint32(times)
	}
	return trim(quotient), trim(rest), api.OK
}

// timesIn is how many times y goes into window, which has a limb more than y and is below base times y.
func timesIn(window, y []uint32) uint64 {
	low, high := bounds(window, y)
	more := sort.Search(int(high-low), func(i int) bool {
		return isAbove(y, low+uint64(i)+1, window)
	})
	return low + uint64(more)
}

// bounds tells how many times y goes into window at least and at most, as the highest limbs of both tell. Two limbs of y make the bounds hardly differ, so that few products are tried.
func bounds(window, y []uint32) (low, high uint64) {
	top := len(y)
	var windowNext, yNext uint64
	if top > 1 {
		windowNext, yNext = uint64(window[top-2]), uint64(y[top-2])
	}
	// Three limbs of window need more than 64 bits. The upper word stays below base, and y's two limbs don't: Div64 doesn't overflow.
	up, down := bits.Mul64(uint64(window[top])*base+uint64(window[top-1]), base)
	down, carry := bits.Add64(down, windowNext, 0)
	by := uint64(y[top-1])*base + yNext
	low, _ = bits.Div64(up+carry, down, by+1)
	high, _ = bits.Div64(up+carry, down, by)
	return low, high
}

// isAbove tells whether times y is above window, which has a limb more than y; times is at most base.
func isAbove(y []uint32, times uint64, window []uint32) bool {
	above := false
	carry := uint64(0)
	for i := range len(window) {
		product := carry
		if i < len(y) {
			product += times * uint64(y[i])
		}
		limb := uint32(product % base)
		carry = product / base
		if limb != window[i] {
			above = limb > window[i] // a higher limb outweighs all below it
		}
	}
	return above
}
