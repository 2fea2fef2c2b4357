package dec

import (
	"lorgnette/api"
	"lorgnette/limb"
)

// Cmp holds numbers against each other.
func Cmp(a, b api.Dec) (int, api.Errno) {
	x, y, err := plainPair(a, b)
	switch {
	case err != api.OK:
		return 0, err
	case x.Neg && !y.Neg:
		return -1, api.OK
	case y.Neg && !x.Neg:
		return 1, api.OK
	}
	p, q, _ := aligned(x, y)
	if x.Neg {
		p, q = q, p // below 0, the greater size is the lesser number
	}
	return limb.Cmp(p, q), api.OK
}

// Add adds.
func Add(a, b api.Dec) (api.Dec, api.Errno) {
	x, y, err := plainPair(a, b)
	if err != api.OK {
		return api.Dec{}, err
	}
	p, q, exp := aligned(x, y)
	if x.Neg == y.Neg {
		return tell(x.Neg, limb.Add(p, q), exp)
	}
	if limb.Cmp(p, q) < 0 {
		x, p, q = y, q, p // the greater size gives the sign
	}
	difference, _ := limb.Sub(p, q)
	return tell(x.Neg, difference, exp)
}

// Mul multiplies.
func Mul(a, b api.Dec) (api.Dec, api.Errno) {
	x, y, err := plainPair(a, b)
	if err != api.OK {
		return api.Dec{}, err
	}
	return tell(x.Neg != y.Neg, limb.Mul(x.Limbs, y.Limbs), x.Exp+y.Exp)
}

// plainPair makes two numbers plain. That one of them isn't near comes ahead of the other's being out of range.
func plainPair(a, b api.Dec) (x, y api.Dec, err api.Errno) {
	defer func() {
		if err != api.OK {
			x, y = api.Dec{}, api.Dec{}
		}
	}()
	if !isNear(a) || !isNear(b) {
		return x, y, api.ErrArg
	}
	if x, err = Norm(a); err != api.OK {
		return x, y, err
	}
	y, err = Norm(b)
	return x, y, err
}

// aligned are the limbs of two plain numbers that may be, both times ten to the exp. They are at most 2*MaxExp+MaxDigits digits apart, which is less than MaxShift: limb shifts them.
func aligned(x, y api.Dec) (p, q []uint32, exp int) {
	exp = min(x.Exp, y.Exp)
	p, _ = limb.Shift(x.Limbs, x.Exp-exp)
	q, _ = limb.Shift(y.Limbs, y.Exp-exp)
	return p, q, exp
}
