package quot

import (
	"slices"

	"lorgnette/api"
	"lorgnette/dec"
	"lorgnette/limb"
)

// maxInt is 2 to the 53: whole numbers up to it, on both sides of 0, are told as an int.
const maxInt = 1 << 53

// Trunc cuts off what stands behind the point.
func Trunc(d api.Dec) (api.Dec, api.Errno) {
	return toWhole(d, toZero)
}

// Floor rounds down.
func Floor(d api.Dec) (api.Dec, api.Errno) {
	return toWhole(d, down)
}

// Ceil rounds up.
func Ceil(d api.Dec) (api.Dec, api.Errno) {
	return toWhole(d, up)
}

// Round rounds to the nearest, away from 0.
func Round(d api.Dec) (api.Dec, api.Errno) {
	return toWhole(d, toNearest)
}

// Abs takes the sign away.
func Abs(d api.Dec) (api.Dec, api.Errno) {
	d.Neg = false
	return dec.Norm(d)
}

// Whole tells whether a number is whole.
func Whole(d api.Dec) bool {
	plain, err := dec.Norm(d)
	return err == api.OK && isWhole(plain)
}

// Int is a whole number that isn't too great.
func Int(d api.Dec) (int, api.Errno) {
	plain, err := dec.Norm(d)
	most := limb.Of(maxInt)
	switch {
	case err != api.OK:
		return 0, err
	case !isWhole(plain):
		return 0, api.ErrKind
	case head(plain) >= limb.Digits(most) || limb.Cmp(units(plain), most) > 0: // a head that isn't great has units that can be written out
		return 0, api.ErrRange
	}
	n := 0
	for _, l := range slices.Backward(units(plain)) {
		n = n*api.LimbBase + int(l)
	}
	if plain.Neg {
		n = -n
	}
	return n, api.OK
}

// toWhole rounds a number.
func toWhole(d api.Dec, way int) (api.Dec, api.Errno) {
	plain, err := dec.Norm(d)
	if err != api.OK {
		return api.Dec{}, err
	}
	return cutWhole(plain, way), api.OK
}

// isWhole tells whether a plain number is whole: its digits end with no nought, so none of them may stand behind the point.
func isWhole(plain api.Dec) bool {
	return plain.Exp >= 0
}

// cutWhole rounds a plain number. What is rounded has digits behind the point: ahead of it there is room for one more.
func cutWhole(plain api.Dec, way int) api.Dec {
	if isWhole(plain) {
		return plain
	}
	unit, _ := limb.Shift([]uint32{1}, -plain.Exp) // at most MaxExp+MaxDigits: limb shifts it
	limbs := divide(plain.Limbs, unit).round(way, plain.Neg)
	whole, _ := dec.Norm(api.Dec{Neg: plain.Neg, Limbs: limbs})
	return whole
}
