package limb_test

import (
	"math/big"
	"slices"
	"testing"

	"lorgnette/api"
	"lorgnette/limb"
)

func checkDivMod(t *testing.T, a, b []uint32) {
	t.Helper()
	q, r, err := limb.DivMod(a, b)
	if worth(b).Sign() == 0 {
		if len(q) != 0 || len(r) != 0 || err != api.ErrZero {
			t.Errorf("DivMod(%v, %v): %v, %v, %d", a, b, q, r, err)
		}
		return
	}
	wantQ, wantR := new(big.Int).DivMod(worth(a), worth(b), new(big.Int))
	if !slices.Equal(q, plain(wantQ)) || !slices.Equal(r, plain(wantR)) || err != api.OK {
		t.Errorf("DivMod(%v, %v): %v, %v, %d, not %v, %v", a, b, q, r, err, wantQ, wantR)
	}
}

func TestDivMod(t *testing.T) {
	for a, b := range pairs {
		checkDivMod(t, a, b)
	}
	checkDivMod(t, []uint32{7, 1}, []uint32{10})
}

func TestDivModByZero(t *testing.T) {
	for _, a := range [][]uint32{nil, {0}, {1}, {5, 7}} {
		for _, b := range [][]uint32{nil, {}, {0}, {0, 0, 0}} {
			checkDivMod(t, a, b)
		}
	}
}

// TestDivModNearMultiples divides numbers hardly below and above multiples: there a quotient's limb is off by one, if its highest limbs alone are looked at.
func TestDivModNearMultiples(t *testing.T) {
	one := []uint32{1}
	divisors, quotients := someLists(4, 400, 6), someLists(5, 400, 6)
	for i, b := range divisors {
		product := limb.Add(limb.Mul(b, quotients[i]), one)
		for range 3 {
			checkDivMod(t, product, b)
			product, _ = limb.Sub(product, one)
		}
	}
}

// TestDivModHighLimbs divides where the divisor's two highest limbs are the least and the greatest ones.
func TestDivModHighLimbs(t *testing.T) {
	limbs := []uint32{0, 1, 2, 499999999, 500000000, 999999998, 999999999}
	for _, low := range limbs {
		for _, middle := range limbs {
			for _, high := range limbs {
				for _, rest := range limbs {
					checkDivMod(t, []uint32{rest, low, middle, high}, []uint32{low, middle})
					checkDivMod(t, []uint32{low, rest, middle, high}, []uint32{rest, middle, high})
					checkDivMod(t, []uint32{low, rest, high, middle, high}, []uint32{middle, low, high})
				}
			}
		}
	}
}

// TestDivModAtWordBorders divides numbers whose two higher limbs, times the base, are 512 below a multiple of two to the 64: their third limb goes beyond it.
func TestDivModAtWordBorders(t *testing.T) {
	for _, high := range [][]uint32{{833210771, 15817289}, {3886483, 340076463}, {345237907, 988594809}} {
		for _, third := range []uint32{0, 511, 512, 513, 999999999} {
			a := append([]uint32{third}, high...)
			checkDivMod(t, a, []uint32{0, high[1] + 1})
			checkDivMod(t, a, []uint32{999999999, high[1] + 1})
			checkDivMod(t, append([]uint32{7}, a...), []uint32{0, 0, high[1] + 1})
			for _, quotient := range []int64{500000003, 999999937, 999999999} {
				checkDivMod(t, a, plain(new(big.Int).Div(worth(a), big.NewInt(quotient))))
			}
		}
	}
}
