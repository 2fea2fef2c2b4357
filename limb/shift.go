package limb

import (
	"lorgnette/api"
)

// Shift multiplies by a power of ten.
func Shift(a []uint32, n int) ([]uint32, api.Errno) {
	if !mayShift(n) {
		return nil, api.ErrArg
	}
	scaled := Mul(a, []uint32{tenTo(n % limbDigits)})
	return trim(append(make([]uint32, n/limbDigits), scaled...)), api.OK
}

// Cut divides by a power of ten.
func Cut(a []uint32, n int) ([]uint32, []uint32, api.Errno) {
	if !mayShift(n) {
		return nil, nil, api.ErrArg
	}
	l := Norm(a)
	whole := min(n/limbDigits, len(l)) // so many limbs go to the rest as they are
	unit := tenTo(n % limbDigits)
	quotient := make([]uint32, len(l)-whole)
	carry := uint32(0)
	for i := range len(quotient) {
		at := len(quotient) - 1 - i
		value := uint64(carry)*base + uint64(l[whole+at])
		quotient[at] = uint32(value / uint64(unit))
		carry = uint32(value % uint64(unit))
	}
	return trim(quotient), trim(append(l[:whole], carry)), api.OK
}

// mayShift tells whether numbers may be shifted by so many digits.
func mayShift(n int) bool {
	return n >= 0 && n <= api.MaxShift
}

// tenTo is ten to the n, which is below 9.
func tenTo(n int) uint32 {
	power := uint32(1)
	for range n {
		power *= 10
	}
	return power
}
