package quot_test

import (
	"math/big"
	"strings"
	"testing"

	"lorgnette/api"
	"lorgnette/dec"
	"lorgnette/quot"
)

// divided is the quotient of two numbers, the second one not 0, as the document tells it.
func divided(a, b api.Dec) (api.Dec, api.Errno) {
	x, y := worth(a), worth(b)
	neg := (x.size.Sign() < 0) != (y.size.Sign() < 0)
	above, below := new(big.Int).Abs(x.size), new(big.Int).Abs(y.size)
	if above.Sign() == 0 {
		return api.Dec{}, api.OK
	}
	exp := x.exp - y.exp
	// Ten by ten, until the quotient's whole part has just the digits that are told.
	for lowest := new(big.Int).Mul(below, tenTo(33)); above.Cmp(lowest) < 0; exp-- {
		above.Mul(above, big.NewInt(10))
	}
	for highest := new(big.Int).Mul(below, tenTo(34)); above.Cmp(highest) >= 0; exp++ {
		below.Mul(below, big.NewInt(10))
		highest.Mul(highest, big.NewInt(10))
	}
	whole, rest := new(big.Int).QuoRem(above, below, new(big.Int))
	switch rest.Lsh(rest, 1).Cmp(below) {
	case 1:
		whole.Add(whole, big.NewInt(1))
	case 0:
		whole.Add(whole, big.NewInt(int64(whole.Bit(0))))
	}
	if neg {
		whole.Neg(whole)
	}
	return plain(number{whole, exp})
}

func checkDiv(t *testing.T, a, b api.Dec) {
	t.Helper()
	var want api.Dec
	wantErr := taken(a, b)
	if wantErr == api.OK && worth(b).size.Sign() == 0 {
		wantErr = api.ErrZero
	}
	if wantErr == api.OK {
		want, wantErr = divided(a, b)
	}
	got, err := quot.Div(a, b)
	check(t, "Div"+show(a, b), got, err, want, wantErr)
}

// wholePart is what stands ahead of a number's point.
func wholePart(n number) *big.Int {
	if n.exp >= 0 {
		return new(big.Int).Mul(n.size, tenTo(n.exp))
	}
	return new(big.Int).Quo(n.size, tenTo(-n.exp))
}

func checkRem(t *testing.T, a, b api.Dec) {
	t.Helper()
	var want api.Dec
	wantErr := taken(a, b)
	if wantErr == api.OK {
		x, y := wholePart(worth(a)), wholePart(worth(b))
		tooGreat := tenTo(400)
		switch {
		case x.CmpAbs(tooGreat) >= 0 || y.CmpAbs(tooGreat) >= 0:
			wantErr = api.ErrRange
		case y.Sign() == 0:
			wantErr = api.ErrZero
		default:
			want, wantErr = plain(number{x.Rem(x, y), 0})
		}
	}
	got, err := quot.Rem(a, b)
	check(t, "Rem"+show(a, b), got, err, want, wantErr)
}

func TestPairsOfEdges(t *testing.T) {
	for _, a := range edges(t) {
		for _, b := range edges(t) {
			checkDiv(t, a, b)
			checkRem(t, a, b)
		}
	}
}

func TestPairsOfMany(t *testing.T) {
	as, bs := some(1, 4000), some(2, 4000)
	for i, a := range as {
		checkDiv(t, a, bs[i])
		checkRem(t, a, bs[i])
		checkDiv(t, a, a)
		checkRem(t, a, a)
	}
}

// TestTies divides by 2 what is one more than twice a number of 34 digits, and what stands beside it.
func TestTies(t *testing.T) {
	for _, whole := range []string{strings.Repeat("3", 34), "1" + strings.Repeat("0", 32) + "4", strings.Repeat("9", 34), strings.Repeat("8", 34), "1" + strings.Repeat("0", 33), strings.Repeat("7", 33) + "9", "5" + strings.Repeat("0", 32) + "1"} {
		n, _ := new(big.Int).SetString(whole, 10)
		for offset := int64(-3); offset <= 3; offset++ {
			twice := new(big.Int).Add(new(big.Int).Lsh(n, 1), big.NewInt(offset))
			for _, exp := range []int{0, 5, -40, 9000, -9000} {
				a, _ := plain(number{twice, exp})
				for _, divisor := range []string{"2", "-2", "4", "20", "0.002", "1.25", "1024"} {
					checkDiv(t, a, read(t, divisor))
				}
			}
		}
	}
}

func TestDivByHand(t *testing.T) {
	for _, c := range []struct{ a, b, want string }{
		{"1", "3", "0." + strings.Repeat("3", 34)}, {"2", "3", "0." + strings.Repeat("6", 33) + "7"}, {"-2", "3", "-0." + strings.Repeat("6", 33) + "7"}, {"2", "-3", "-0." + strings.Repeat("6", 33) + "7"}, {"-1", "-3", "0." + strings.Repeat("3", 34)},
		{"1", "8", "0.125"}, {"6", "3", "2"}, {"6", "-0.5", "-12"}, {"0", "5", "0"}, {"0", "-5", "0"}, {"-1e100", "4", "-2.5e99"}, {"1", "1e5", "0.00001"}, {"700", "7", "100"}, {"10", "4", "2.5"},
		{"1", "7", "0.1428571428571428571428571428571429"}, {"22", "7", "3.142857142857142857142857142857143"},
		{"5", "0", "ErrZero"}, {"0", "0", "ErrZero"}, {"-1e10000", "0", "ErrZero"},
		// It has an end at 34 digits; at 35, with a 5 last, at the even digit.
		{"1" + strings.Repeat("0", 32) + "3", "1", "1." + strings.Repeat("0", 32) + "3e33"}, {"1" + strings.Repeat("0", 32) + "6", "2", "5." + strings.Repeat("0", 31) + "3e32"},
		{"1" + strings.Repeat("0", 33) + "5", "1", "1e34"}, {"1" + strings.Repeat("0", 32) + "15", "1", "1." + strings.Repeat("0", 32) + "2e34"}, {"1" + strings.Repeat("0", 32) + "25", "-1", "-1." + strings.Repeat("0", 32) + "2e34"},
		{"1" + strings.Repeat("0", 32) + "251", "1", "1." + strings.Repeat("0", 32) + "3e35"}, {"1" + strings.Repeat("0", 32) + "249", "1", "1." + strings.Repeat("0", 32) + "2e35"}, {"2" + strings.Repeat("0", 32) + "5", "2", "1." + strings.Repeat("0", 32) + "2e33"},
		// Rounding carries through all nines.
		{strings.Repeat("9", 35), "1", "1e35"}, {strings.Repeat("9", 34), "1", "9." + strings.Repeat("9", 33) + "e33"}, {"-" + strings.Repeat("9", 400), "1", "-1e400"}, {strings.Repeat("9", 34) + "5", "1", "1e35"}, {strings.Repeat("9", 33) + "85", "1", "9." + strings.Repeat("9", 32) + "8e34"},
		// At the ends of the range, and beyond.
		{"1e10000", "1e10000", "1"}, {"1e10000", "-1", "-1e10000"}, {"1e10000", "0.1", "ErrRange"}, {"1e10000", "3", "3." + strings.Repeat("3", 33) + "e9999"}, {"1e-10000", "3", "ErrRange"}, {"9e-10000", "3", "3e-10000"}, {"1e-10000", "1e-10000", "1"},
		{"1e-10000", "2", "ErrRange"}, {"1e10000", "1e-10000", "ErrRange"}, {"1e-10000", "1e10000", "ErrRange"}, {"1e5000", "1e-5000", "1e10000"}, {"1e-5000", "1e5000", "1e-10000"}, {"-1e5000", "1e-5001", "ErrRange"}, {"9." + strings.Repeat("9", 34) + "e10000", "1", "ErrRange"},
		{"9." + strings.Repeat("9", 34) + "e-10000", "10", "1e-10000"}, {"9." + strings.Repeat("9", 33) + "e-10000", "10", "ErrRange"},
	} {
		if got := textOf(quot.Div(read(t, c.a), read(t, c.b))); got != c.want {
			t.Errorf("Div(%s, %s): %s, not %s", c.a, c.b, got, c.want)
		}
	}
}

func TestRemByHand(t *testing.T) {
	for _, c := range []struct{ a, b, want string }{
		{"7", "3", "1"}, {"-7", "3", "-1"}, {"7", "-3", "1"}, {"-7", "-3", "-1"}, {"6", "3", "0"}, {"-6", "3", "0"}, {"0", "3", "0"}, {"2", "3", "2"}, {"-7.9", "2.5", "-1"}, {"7.9", "-2.5", "1"}, {"5.99", "5.01", "0"},
		{"-0.5", "3", "0"}, {"0.999", "1", "0"}, {"7", "0", "ErrZero"}, {"7", "0.5", "ErrZero"}, {"7", "-0.999", "ErrZero"}, {"0", "1e-10000", "ErrZero"}, {"1e18", "7", "1"}, {"120", "50", "20"}, {"10", "1e30", "10"},
		{"1e399", "7", "6"}, {"-1e399", "7", "-6"}, {"7", "1e399", "7"}, {"1e399", "1e399", "0"}, {strings.Repeat("9", 400), "1e399", "9." + strings.Repeat("9", 398) + "e398"}, {strings.Repeat("9", 400), "10", "9"},
		{"1e400", "7", "ErrRange"}, {"7", "1e400", "ErrRange"}, {"-1e400", "7", "ErrRange"}, {"7", "-1e400", "ErrRange"}, {"1e400", "1e400", "ErrRange"}, {"1e400", "0", "ErrRange"}, {"1e400", "0.5", "ErrRange"}, {"0", "1e10000", "ErrRange"},
	} {
		if got := textOf(quot.Rem(read(t, c.a), read(t, c.b))); got != c.want {
			t.Errorf("Rem(%s, %s): %s, not %s", c.a, c.b, got, c.want)
		}
	}
}

// TestErrorsInTheirOrder wants ErrArg ahead of ErrRange ahead of ErrZero, whichever of the two numbers it comes from.
func TestErrorsInTheirOrder(t *testing.T) {
	may, far, notNear := api.Dec{Limbs: []uint32{1}}, api.Dec{Limbs: []uint32{1}, Exp: 10001}, api.Dec{Exp: 30001}
	for _, c := range []struct {
		a, b api.Dec
		want string
	}{
		{may, notNear, "ErrArg"}, {notNear, may, "ErrArg"}, {far, notNear, "ErrArg"}, {notNear, far, "ErrArg"}, {notNear, notNear, "ErrArg"}, {notNear, api.Dec{}, "ErrArg"},
		{may, far, "ErrRange"}, {far, may, "ErrRange"}, {far, far, "ErrRange"}, {api.Dec{}, far, "ErrRange"}, {far, api.Dec{}, "ErrRange"}, {may, api.Dec{}, "ErrZero"},
	} {
		if got := textOf(quot.Div(c.a, c.b)); got != c.want {
			t.Errorf("Div%s: %s", show(c.a, c.b), got)
		}
		if got := textOf(quot.Rem(c.a, c.b)); got != c.want {
			t.Errorf("Rem%s: %s", show(c.a, c.b), got)
		}
	}
}

// TestExactQuotientGivesNumberBack divides products of numbers of 34 digits at most.
func TestExactQuotientGivesNumberBack(t *testing.T) {
	as, bs := some(3, 1500), some(4, 1500)
	found := 0
	for i, a := range as {
		b, _ := dec.Norm(bs[i])
		want, _ := dec.Norm(a)
		if len(b.Limbs) == 0 || len(worth(want).size.Text(10)) > 34 {
			continue
		}
		found++
		product, err := dec.Mul(a, b)
		if err != api.OK {
			t.Fatalf("Mul%s: %d", show(a, b), err)
		}
		got, err := quot.Div(product, b)
		check(t, "Div of a product and"+show(b), got, err, want, api.OK)
	}
	if found < 500 {
		t.Errorf("%d numbers alone", found)
	}
}

// TestQuotientIsNear multiplies the quotient back: it is the number, or off by less than one of the quotient's 34th digit.
func TestQuotientIsNear(t *testing.T) {
	as, bs := some(5, 1500), some(6, 1500)
	exact, off := 0, 0
	for i, a := range as {
		b := bs[i]
		quotient, err := quot.Div(a, b)
		if err != api.OK || len(quotient.Limbs) == 0 {
			continue
		}
		back, _ := dec.Mul(quotient, b)
		if order, _ := dec.Cmp(back, a); order == 0 {
			exact++
			continue
		}
		off++
		last := quotient.Exp + len(new(big.Int).Abs(worth(quotient).size).Text(10)) - 34
		less, _ := dec.Neg(api.Dec{Limbs: []uint32{1}, Exp: last})
		isOff := func(by api.Dec) int {
			near, _ := dec.Add(quotient, by)
			product, _ := dec.Mul(near, b)
			order, _ := dec.Cmp(product, a)
			return order
		}
		if isOff(less)*isOff(api.Dec{Limbs: []uint32{1}, Exp: last}) != -1 {
			t.Errorf("Div%s:%s", show(a, b), show(quotient))
		}
	}
	if exact < 20 || off < 500 {
		t.Errorf("%d exact, %d off", exact, off)
	}
}

// TestRestIsNearerToZero holds rests against their divisors, and takes them away from their numbers.
func TestRestIsNearerToZero(t *testing.T) {
	as, bs := some(7, 1500), some(8, 1500)
	found := 0
	for i, a := range as {
		rest, err := quot.Rem(a, bs[i])
		if err != api.OK {
			continue
		}
		found++
		x, _ := quot.Trunc(a)
		y, _ := quot.Trunc(bs[i])
		size, _ := quot.Abs(rest)
		divisor, _ := quot.Abs(y)
		if order, _ := dec.Cmp(size, divisor); order >= 0 || len(rest.Limbs) > 0 && rest.Neg != a.Neg || !quot.Whole(rest) {
			t.Errorf("Rem%s:%s", show(a, bs[i]), show(rest))
		}
		opposite, _ := dec.Neg(rest)
		multiple, _ := dec.Add(x, opposite)
		if again, err := quot.Rem(multiple, y); err != api.OK || len(again.Limbs) > 0 {
			t.Errorf("%s less its rest by%s:%s, %d", show(a), show(bs[i]), show(again), err)
		}
	}
	if found < 500 {
		t.Errorf("%d rests alone", found)
	}
}
