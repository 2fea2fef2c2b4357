package quot

import (
	"lorgnette/limb"
)

// The ways of rounding.
const (
	toZero = iota
	down
	up
	toNearest // halves away from 0
	toEven    // to the nearest, halves to where the last digit is even
)

// quotient is one of naturals, ahead of rounding.
type quotient struct {
	whole, rest, divisor []uint32
}

// divide is for divisors that aren't 0.
func divide(a, b []uint32) quotient {
	whole, rest, _ := limb.DivMod(a, b)
	return quotient{whole, rest, b}
}

// round is the whole number that stands for the quotient. Ways that aren't the same on both sides of 0 ask whether the number is below it.
func (q quotient) round(way int, neg bool) []uint32 {
	isExact := func() bool { return len(q.rest) == 0 }
	half := limb.Cmp(limb.Add(q.rest, q.rest), q.divisor)
	away := false
	switch way {
	case toEven:
		if half == 0 {
			away = isOdd(q.whole)
			break
		}
		fallthrough
	case toNearest:
		away = half >= 0
	case down:
		neg = !neg // down is on one side of 0 what up is on the other
		fallthrough
	case up:
		away = !neg && !isExact()
	}
	if away {
		return limb.Add(q.whole, []uint32{1})
	}
	return q.whole
}

func isOdd(l []uint32) bool {
	return len(l) > 0 && l[0]%2 == 1
}
