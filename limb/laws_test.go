package limb_test

import (
	"slices"
	"testing"

	"lorgnette/api"
	"lorgnette/limb"
)

func TestOrderOfSumsAndProducts(t *testing.T) {
	as, bs, cs := someLists(7, 200, 6), someLists(8, 200, 6), someLists(9, 200, 6)
	for i, a := range as {
		b, c := bs[i], cs[i]
		if !slices.Equal(limb.Add(a, b), limb.Add(b, a)) || !slices.Equal(limb.Mul(a, b), limb.Mul(b, a)) {
			t.Errorf("%v and %v, turned round", a, b)
		}
		if !slices.Equal(limb.Add(limb.Add(a, b), c), limb.Add(a, limb.Add(b, c))) {
			t.Errorf("the sum of %v, %v, %v", a, b, c)
		}
		if !slices.Equal(limb.Mul(limb.Mul(a, b), c), limb.Mul(a, limb.Mul(b, c))) {
			t.Errorf("the product of %v, %v, %v", a, b, c)
		}
		if !slices.Equal(limb.Mul(a, limb.Add(b, c)), limb.Add(limb.Mul(a, b), limb.Mul(a, c))) {
			t.Errorf("%v times the sum of %v and %v", a, b, c)
		}
	}
}

func TestThereAndBack(t *testing.T) {
	for a, b := range pairs {
		l := limb.Norm(a)
		if got, err := limb.Sub(limb.Add(a, b), b); !slices.Equal(got, l) || err != api.OK {
			t.Errorf("%v and %v added, taken away: %v, %d", a, b, got, err)
		}
		if len(limb.Norm(b)) > 0 {
			if got, rest, err := limb.DivMod(limb.Mul(a, b), b); !slices.Equal(got, l) || len(rest) != 0 || err != api.OK {
				t.Errorf("%v and %v multiplied, divided: %v, %v, %d", a, b, got, rest, err)
			}
		}
	}
	for _, a := range singles() {
		l := limb.Norm(a)
		if got, err := limb.Parse(limb.Text(a)); !slices.Equal(got, l) || err != api.OK {
			t.Errorf("%v written, parsed: %v, %d", a, got, err)
		}
		for _, n := range []int{0, 1, 9, 13, 30000} {
			shifted, _ := limb.Shift(a, n)
			if got, rest, err := limb.Cut(shifted, n); !slices.Equal(got, l) || len(rest) != 0 || err != api.OK {
				t.Errorf("%v shifted by %d, cut: %v, %v, %d", a, n, got, rest, err)
			}
		}
	}
}

// answers are the lists of all calls that tell lists, each with its call's name.
func answers(a, b []uint32) map[string][]uint32 {
	lists := map[string][]uint32{"Norm": limb.Norm(a), "Add": limb.Add(a, b), "Mul": limb.Mul(a, b)}
	lists["Sub"], _ = limb.Sub(a, b)
	lists["quotient"], lists["rest"], _ = limb.DivMod(a, b)
	lists["Shift"], _ = limb.Shift(a, 0)
	lists["Cut"], lists["what is cut off"], _ = limb.Cut(a, 9)
	return lists
}

// TestArgumentsStay writes all over what was told: arguments, and the other answers, must not see it.
func TestArgumentsStay(t *testing.T) {
	for a, b := range pairs {
		roomA, roomB := append(slices.Clone(a), 77, 77, 77), append(slices.Clone(b), 77, 77, 77)
		want := answers(a, b)
		for name, list := range want {
			want[name] = slices.Clone(list)
		}
		got := answers(roomA[:len(a)], roomB[:len(b)])
		for name, list := range got {
			if !slices.Equal(list, want[name]) {
				t.Fatalf("%s of %v and %v: overwritten", name, a, b)
			}
			all := list[:cap(list)]
			for i := range all {
				all[i] = 88
			}
		}
		if !slices.Equal(roomA, append(slices.Clone(a), 77, 77, 77)) || !slices.Equal(roomB, append(slices.Clone(b), 77, 77, 77)) {
			t.Fatalf("%v and %v are not what they were: %v, %v", a, b, roomA, roomB)
		}
	}
}
