// Package limb is layer 1: see shared/doc/01-limb.md. Natural numbers of any size, as lists of limbs, the lowest first.
package limb

import (
	"cmp"

	"lorgnette/api"
)

// base is a number, so that sums of limbs are reckoned with 64 bits.
const base uint64 = api.LimbBase

// limbDigits is how many decimal digits a limb has room for.
const limbDigits = 9

// Norm makes a list plain.
func Norm(l []uint32) []uint32 {
	plain := make([]uint32, 0, len(l)+1)
	carry := uint64(0)
	for i := range len(l) {
		sum := uint64(l[i]) + carry
		plain = append(plain, uint32(sum%base))
		carry = sum / base
	}
	return trim(append(plain, uint32(carry)))
}

// Of is a number's list.
func Of(n uint64) []uint32 {
	var l []uint32
	for rest := n; rest > 0; rest /= base {
		l = append(l, uint32(rest%base))
	}
	return l
}

// Cmp holds numbers against each other.
func Cmp(a, b []uint32) int {
	x, y := Norm(a), Norm(b)
	if len(x) != len(y) {
		return cmp.Compare(len(x), len(y))
	}
	for i := range len(x) {
		at := len(x) - 1 - i
		if x[at] != y[at] {
			return cmp.Compare(x[at], y[at])
		}
	}
	return 0
}

// trim takes the noughts off a list's high end; what it tells is the same memory.
func trim(l []uint32) []uint32 {
	n := len(l)
	for n > 0 && l[n-1] == 0 {
		n--
	}
	return l[:n]
}
