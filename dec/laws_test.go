package dec_test

import (
	"slices"
	"testing"

	"lorgnette/api"
	"lorgnette/dec"
)

// TestThereAndBack reads what was written.
func TestThereAndBack(t *testing.T) {
	for _, d := range append(edges(), some(7, 2000)...) {
		text, err := dec.Text(d)
		if err != api.OK {
			continue
		}
		want, _ := dec.Norm(d)
		got, err := dec.Parse(text)
		check(t, "Parse of Text"+show(d), got, err, want, api.OK)
		if !dec.May(got) {
			t.Errorf("%s may not be", text)
		}
	}
}

// inRange is a number that a call told of numbers whose sums and products are in range.
func inRange(t *testing.T, call func(a, b api.Dec) (api.Dec, api.Errno), a, b api.Dec) api.Dec {
	t.Helper()
	told, err := call(a, b)
	if err != api.OK || !dec.May(told) {
		t.Fatalf("of%s: %d", show(a, b), err)
	}
	return told
}

func TestOrderOfSumsAndProducts(t *testing.T) {
	as, bs, cs := some(8, 800), some(9, 800), some(10, 800)
	for i, a := range as {
		b, c := bs[i], cs[i]
		sum, product := inRange(t, dec.Add, a, b), inRange(t, dec.Mul, a, b)
		if !same(sum, inRange(t, dec.Add, b, a)) || !same(product, inRange(t, dec.Mul, b, a)) {
			t.Errorf("turned round:%s", show(a, b))
		}
		if !same(inRange(t, dec.Add, sum, c), inRange(t, dec.Add, a, inRange(t, dec.Add, b, c))) {
			t.Errorf("the sum of%s", show(a, b, c))
		}
		if !same(inRange(t, dec.Mul, product, c), inRange(t, dec.Mul, a, inRange(t, dec.Mul, b, c))) {
			t.Errorf("the product of%s", show(a, b, c))
		}
		if !same(inRange(t, dec.Mul, sum, c), inRange(t, dec.Add, inRange(t, dec.Mul, a, c), inRange(t, dec.Mul, b, c))) {
			t.Errorf("the product of a sum of%s", show(a, b, c))
		}
	}
}

func TestOppositeUndoesSum(t *testing.T) {
	as, bs := some(11, 800), some(12, 800)
	for i, a := range as {
		b := bs[i]
		opposite, _ := dec.Neg(b)
		want, _ := dec.Norm(a)
		if got := inRange(t, dec.Add, inRange(t, dec.Add, a, b), opposite); !same(got, want) {
			t.Errorf("%s, the second one added, taken away:%s", show(a, b), show(got))
		}
		if got := inRange(t, dec.Add, b, opposite); !isNothing(got) {
			t.Errorf("%s and its opposite:%s", show(b), show(got))
		}
		back, _ := dec.Neg(opposite)
		if want, _ := dec.Norm(b); !same(back, want) {
			t.Errorf("the opposite of the opposite of%s", show(b))
		}
	}
}

// cmp is the order of numbers that are in range.
func cmp(t *testing.T, a, b api.Dec) int {
	t.Helper()
	order, err := dec.Cmp(a, b)
	if err != api.OK {
		t.Fatalf("Cmp%s: %d", show(a, b), err)
	}
	return order
}

func TestOrderIsOne(t *testing.T) {
	as, bs, cs := some(13, 800), some(14, 800), some(15, 800)
	for i, a := range as {
		b, c := bs[i], cs[i]
		order := cmp(t, a, b)
		if cmp(t, b, a) != -order || cmp(t, a, a) != 0 {
			t.Errorf("the order of%s, turned round", show(a, b))
		}
		if order <= 0 && cmp(t, b, c) <= 0 && cmp(t, a, c) > 0 {
			t.Errorf("the order of%s goes in a ring", show(a, b, c))
		}
		if cmp(t, inRange(t, dec.Add, a, c), inRange(t, dec.Add, b, c)) != order {
			t.Errorf("sums with the third one don't keep the order of%s", show(a, b, c))
		}
		x, _ := dec.Norm(a)
		y, _ := dec.Norm(b)
		if same(x, y) != (order == 0) {
			t.Errorf("the same and not the same:%s", show(a, b))
		}
	}
}

// answers are what all calls tell that tell Decs of Decs.
func answers(a, b api.Dec) []api.Dec {
	told := make([]api.Dec, 4)
	told[0], _ = dec.Norm(a)
	told[1], _ = dec.Neg(a)
	told[2], _ = dec.Add(a, b)
	told[3], _ = dec.Mul(a, b)
	return told
}

// roomy is a list with more behind its end, as a piece of a longer one has.
func roomy(l []uint32) []uint32 {
	return append(slices.Clone(l), 77, 77, 77)
}

// TestArgumentsStay writes all over what was told: arguments, and other answers, must not see it.
func TestArgumentsStay(t *testing.T) {
	as := append(edges(), some(16, 200)...)
	for i, a := range as {
		for _, b := range []api.Dec{{}, {Limbs: []uint32{1}}, as[(i+7)%len(as)]} {
			roomA, roomB := roomy(a.Limbs), roomy(b.Limbs)
			x, y := a, b
			x.Limbs, y.Limbs = roomA[:len(a.Limbs)], roomB[:len(b.Limbs)]
			want := answers(a, b)
			for i, d := range want {
				want[i].Limbs = slices.Clone(d.Limbs)
			}
			dec.May(x)
			dec.Text(x)
			dec.Cmp(x, y)
			for i, d := range answers(x, y) {
				if !same(d, want[i]) {
					t.Fatalf("answer %d of%s: overwritten", i, show(a, b))
				}
				all := d.Limbs[:cap(d.Limbs)]
				for j := range all {
					all[j] = 88
				}
			}
			if !slices.Equal(roomA, roomy(a.Limbs)) || !slices.Equal(roomB, roomy(b.Limbs)) {
				t.Fatalf("%s are not what they were", show(a, b))
			}
		}
	}
}

// TestNothingIsKept asks again for what was written over.
func TestNothingIsKept(t *testing.T) {
	for range 3 {
		for _, d := range []api.Dec{dec.Of(-1203), read(t, "-1203"), read(t, "-12.03e2")} {
			check(t, "-1203", d, api.OK, api.Dec{Neg: true, Limbs: []uint32{1203}}, api.OK)
			d.Limbs[0] = 88
		}
	}
}
