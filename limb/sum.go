package limb

import (
	"lorgnette/api"
)

// Add adds.
func Add(a, b []uint32) []uint32 {
	x, y := Norm(a), Norm(b)
	if len(x) < len(y) {
		x, y = y, x
	}
	for i := range len(y) {
		x[i] += y[i] // below 2 times the base, which 32 bits hold
	}
	return Norm(x)
}

// Sub takes away.
func Sub(a, b []uint32) ([]uint32, api.Errno) {
	if Cmp(b, a) > 0 {
		return nil, api.ErrArg
	}
	x, y := Norm(a), Norm(b)
	takeOff(x, y, 1)
	return trim(x), api.OK
}

// Mul multiplies.
func Mul(a, b []uint32) []uint32 {
	x, y := Norm(a), Norm(b)
	product := make([]uint32, len(x)+len(y))
	for i := range len(x) {
		carry := uint64(0)
		for j := range len(y) {
			sum := uint64(product[i+j]) + uint64(x[i])*uint64(y[j]) + carry
			product[i+j] = uint32(sum % base)
			carry = sum / base
		}
		product[i+len(y)] = uint32(carry)
	}
	return trim(product)
}

// takeOff takes times y off x, where x stands; both are plain but for noughts at x's high end, and times y isn't above x.
func takeOff(x, y []uint32, times uint64) {
	carry := uint64(0)
	for i := range len(x) {
		off := carry
		if i < len(y) {
			off += times * uint64(y[i])
		}
		carry = off / base
		low := uint32(off % base)
		if x[i] < low {
			x[i] += api.LimbBase
			carry++
		}
		x[i] -= low
	}
}
