package limb_test

import (
	"math"
	"math/big"
	"slices"
	"testing"

	"lorgnette/api"
	"lorgnette/limb"
)

// shifts are those that may be: within a limb, beside limbs' borders, the greatest.
func shifts() []int {
	return []int{0, 1, 2, 8, 9, 10, 17, 18, 19, 100, 29999, 30000}
}

// wrongShifts are those that may not be.
func wrongShifts() []int {
	return []int{-1, -9, math.MinInt, 30001, 30009, math.MaxInt}
}

// shiftLists are few, since great shifts make long lists.
func shiftLists() [][]uint32 {
	return append(edgeLists(), someLists(6, 20, 6)...)
}

func TestShift(t *testing.T) {
	for _, n := range shifts() {
		power := tenTo(n)
		for _, l := range shiftLists() {
			want := plain(new(big.Int).Mul(worth(l), power))
			if got, err := limb.Shift(l, n); !slices.Equal(got, want) || err != api.OK {
				t.Fatalf("Shift(%v, %d): %v, %d", l, n, got, err)
			}
		}
	}
	if got, err := limb.Shift([]uint32{7}, 9); !slices.Equal(got, []uint32{0, 7}) || err != api.OK {
		t.Errorf("Shift(7, 9): %v, %d", got, err)
	}
}

func checkCut(t *testing.T, l []uint32, number *big.Int, n int, power *big.Int) {
	t.Helper()
	wantQ, wantR := new(big.Int).DivMod(number, power, new(big.Int))
	q, r, err := limb.Cut(l, n)
	if !slices.Equal(q, plain(wantQ)) || !slices.Equal(r, plain(wantR)) || err != api.OK {
		t.Fatalf("Cut(%v, %d): %v, %v, %d", l, n, q, r, err)
	}
}

func TestCut(t *testing.T) {
	for n := range 60 {
		for _, l := range singles() {
			checkCut(t, l, worth(l), n, tenTo(n))
		}
	}
	for _, n := range shifts() {
		power := tenTo(n)
		for _, l := range shiftLists() {
			checkCut(t, l, worth(l), n, power)
		}
	}
}

// TestCutOfLongNumbers cuts numbers that have more digits than the greatest shift.
func TestCutOfLongNumbers(t *testing.T) {
	for _, l := range someLists(10, 10, 6) {
		number := worth(l)
		number.Add(number, new(big.Int).Mul(number, tenTo(api.MaxShift)))
		for _, n := range shifts() {
			checkCut(t, plain(number), number, n, tenTo(n))
		}
	}
}

func TestWrongShifts(t *testing.T) {
	for _, n := range wrongShifts() {
		for _, l := range [][]uint32{nil, {0}, {7}, {math.MaxUint32, 0}} {
			if got, err := limb.Shift(l, n); len(got) != 0 || err != api.ErrArg {
				t.Errorf("Shift(%v, %d): %v, %d", l, n, got, err)
			}
			if q, r, err := limb.Cut(l, n); len(q) != 0 || len(r) != 0 || err != api.ErrArg {
				t.Errorf("Cut(%v, %d): %v, %v, %d", l, n, q, r, err)
			}
		}
	}
}
