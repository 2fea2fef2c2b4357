package limb_test

import (
	"math"
	"math/big"
	"math/rand"
	"slices"
	"strconv"
	"testing"

	"lorgnette/api"
	"lorgnette/limb"
)

// worth is a list's worth, as the document tells it.
func worth(l []uint32) *big.Int {
	sum := new(big.Int)
	for i := len(l) - 1; i >= 0; i-- {
		sum.Mul(sum, big.NewInt(api.LimbBase))
		sum.Add(sum, big.NewInt(int64(l[i])))
	}
	return sum
}

// plain is a number's plain list: its decimal digits, nine by nine from the end.
func plain(n *big.Int) []uint32 {
	var l []uint32
	if n.Sign() == 0 {
		return l
	}
	digits := n.String()
	for end := len(digits); end > 0; end -= 9 {
		value, _ := strconv.Atoi(digits[max(0, end-9):end])
		l = append(l, uint32(value))
	}
	return l
}

func tenTo(n int) *big.Int {
	return new(big.Int).Exp(big.NewInt(10), big.NewInt(int64(n)), nil)
}

// edgeLimbs are the limbs at which lists stop being plain, and the greatest that 32 bits hold.
func edgeLimbs() []uint32 {
	return []uint32{0, 1, 9, 999999999, 1000000000, 1000000001, math.MaxUint32}
}

// edgeLists are all lists of at most two of edgeLimbs.
func edgeLists() [][]uint32 {
	lists := [][]uint32{nil, {}}
	for _, a := range edgeLimbs() {
		lists = append(lists, []uint32{a})
		for _, b := range edgeLimbs() {
			lists = append(lists, []uint32{a, b})
		}
	}
	return lists
}

// someLists are longer lists, the same at each run: of edges, of limbs that may be, of any limbs.
func someLists(seed int64, count, longest int) [][]uint32 {
	chance := rand.New(rand.NewSource(seed))
	lists := make([][]uint32, count)
	for i := range lists {
		l := make([]uint32, chance.Intn(longest+1))
		for j := range l {
			switch chance.Intn(3) {
			case 0:
				l[j] = edgeLimbs()[chance.Intn(len(edgeLimbs()))]
			case 1:
				l[j] = uint32(chance.Intn(api.LimbBase))
			default:
				l[j] = chance.Uint32()
			}
		}
		lists[i] = l
	}
	return lists
}

// pairs goes through all pairs of edge lists, and through pairs of longer ones.
func pairs(yield func(a, b []uint32) bool) {
	for _, a := range edgeLists() {
		for _, b := range edgeLists() {
			if !yield(a, b) {
				return
			}
		}
	}
	as, bs := someLists(1, 600, 12), someLists(2, 600, 8)
	for i := range as {
		if !yield(as[i], bs[i]) {
			return
		}
	}
}

// singles goes through edge lists and longer ones.
func singles() [][]uint32 {
	return append(edgeLists(), someLists(3, 300, 12)...)
}

func TestNorm(t *testing.T) {
	for _, l := range singles() {
		if got, want := limb.Norm(l), plain(worth(l)); !slices.Equal(got, want) {
			t.Errorf("Norm(%v): %v, not %v", l, got, want)
		}
	}
	for _, c := range []struct{ l, want []uint32 }{
		{[]uint32{2000000005, 0}, []uint32{5, 2}},
		{[]uint32{0, 0, 0}, nil},
		{[]uint32{7, 0, 0}, []uint32{7}},
		{[]uint32{1000000000}, []uint32{0, 1}},
		{[]uint32{math.MaxUint32}, []uint32{294967295, 4}},
		{[]uint32{1000000000, 999999999, 999999999}, []uint32{0, 0, 0, 1}},
	} {
		if got := limb.Norm(c.l); !slices.Equal(got, c.want) {
			t.Errorf("Norm(%v): %v, not %v", c.l, got, c.want)
		}
	}
}

func TestOf(t *testing.T) {
	for _, n := range []uint64{0, 1, 999999999, 1000000000, 1000000001, 999999999999999999, 1000000000000000000, math.MaxUint64} {
		want := plain(new(big.Int).SetUint64(n))
		if got := limb.Of(n); !slices.Equal(got, want) {
			t.Errorf("Of(%d): %v, not %v", n, got, want)
		}
	}
}

func TestCmp(t *testing.T) {
	for a, b := range pairs {
		if got, want := limb.Cmp(a, b), worth(a).Cmp(worth(b)); got != want {
			t.Errorf("Cmp(%v, %v): %d, not %d", a, b, got, want)
		}
	}
	if got := limb.Cmp([]uint32{1000000000}, []uint32{0, 1, 0}); got != 0 {
		t.Errorf("two lists of one worth: %d", got)
	}
}
