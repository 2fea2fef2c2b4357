package quot_test

import (
	"math/big"
	"slices"
	"strings"
	"testing"

	"lorgnette/api"
	"lorgnette/dec"
	"lorgnette/quot"
)

// rounded is a number rounded all ways: toward 0, down, up, to the nearest.
func rounded(n number) [4]*big.Int {
	size, unit := new(big.Int).Mul(n.size, tenTo(max(n.exp, 0))), tenTo(max(-n.exp, 0))
	floor := new(big.Int).Div(size, unit) // rounds down, for unit is above 0
	ceil := new(big.Int).Neg(size)
	ceil.Neg(ceil.Div(ceil, unit))
	nearest := new(big.Int).Abs(size)
	nearest.Add(nearest.Lsh(nearest, 1), unit)
	nearest.Div(nearest, new(big.Int).Lsh(unit, 1))
	if size.Sign() < 0 {
		nearest.Neg(nearest)
	}
	return [4]*big.Int{new(big.Int).Quo(size, unit), floor, ceil, nearest}
}

func checkWhole(t *testing.T, d api.Dec) {
	t.Helper()
	wantErr := taken(d)
	var want [5]api.Dec
	isWhole := false
	if wantErr == api.OK {
		n := worth(d)
		for i, size := range rounded(n) {
			want[i], wantErr = plain(number{size, 0})
		}
		want[4], _ = plain(number{new(big.Int).Abs(n.size), n.exp})
		p, _ := plain(n)
		isWhole = same(p, want[0])
	}
	got, err := quot.Trunc(d)
	check(t, "Trunc"+show(d), got, err, want[0], wantErr)
	got, err = quot.Floor(d)
	check(t, "Floor"+show(d), got, err, want[1], wantErr)
	got, err = quot.Ceil(d)
	check(t, "Ceil"+show(d), got, err, want[2], wantErr)
	got, err = quot.Round(d)
	check(t, "Round"+show(d), got, err, want[3], wantErr)
	got, err = quot.Abs(d)
	check(t, "Abs"+show(d), got, err, want[4], wantErr)
	if quot.Whole(d) != isWhole {
		t.Errorf("Whole%s: %t", show(d), !isWhole)
	}
	checkInt(t, d, isWhole)
}

func checkInt(t *testing.T, d api.Dec, isWhole bool) {
	t.Helper()
	want, wantErr := 0, taken(d)
	if wantErr == api.OK {
		size := wholePart(worth(d))
		switch {
		case !isWhole:
			wantErr = api.ErrKind
		case size.CmpAbs(big.NewInt(9007199254740992)) > 0:
			wantErr = api.ErrRange
		default:
			want = int(size.Int64())
		}
	}
	if got, err := quot.Int(d); got != want || err != wantErr {
		t.Errorf("Int%s: %d, %d, not %d, %d", show(d), got, err, want, wantErr)
	}
}

func TestWholeNumbers(t *testing.T) {
	for _, d := range slices.Concat(edges(t), some(9, 4000)) {
		checkWhole(t, d)
	}
}

// TestBesideWholeNumbers asks for numbers a little below and above halves and wholes, from their last digits on.
func TestBesideWholeNumbers(t *testing.T) {
	for whole := range 4 {
		for _, behind := range []int{1, 2, 9, 30, 300} {
			for tenth := range 10 {
				middle := new(big.Int).Mul(big.NewInt(int64(10*whole+tenth)), tenTo(behind-1))
				for offset := int64(-1); offset <= 1; offset++ {
					size := new(big.Int).Add(middle, big.NewInt(offset))
					above, _ := plain(number{size, -behind})
					below, _ := plain(number{new(big.Int).Neg(size), -behind})
					checkWhole(t, above)
					checkWhole(t, below)
				}
			}
		}
	}
}

func TestRoundingByHand(t *testing.T) {
	nines := strings.Repeat("9", 399)
	for _, c := range []struct{ d, trunc, floor, ceil, round string }{
		{"0", "0", "0", "0", "0"}, {"5", "5", "5", "5", "5"}, {"-5", "-5", "-5", "-5", "-5"}, {"120", "120", "120", "120", "120"}, {"1e300", "1e300", "1e300", "1e300", "1e300"}, {"-1e10000", "-1e10000", "-1e10000", "-1e10000", "-1e10000"},
		{"1.9", "1", "1", "2", "2"}, {"-1.9", "-1", "-2", "-1", "-2"}, {"2.5", "2", "2", "3", "3"}, {"-2.5", "-2", "-3", "-2", "-3"}, {"3.5", "3", "3", "4", "4"}, {"2.49", "2", "2", "3", "2"}, {"-2.51", "-2", "-3", "-2", "-3"},
		{"0.5", "0", "0", "1", "1"}, {"-0.5", "0", "-1", "0", "-1"}, {"0.49", "0", "0", "1", "0"}, {"-0.49", "0", "-1", "0", "0"}, {"0.51", "0", "0", "1", "1"}, {"-0.1", "0", "-1", "0", "0"}, {"0.1", "0", "0", "1", "0"}, {"9.5", "9", "9", "10", "10"},
		{"1e-10000", "0", "0", "1", "0"}, {"-1e-10000", "0", "-1", "0", "0"}, {"99999999.5", "99999999", "99999999", "100000000", "100000000"}, {"-999999999.01", "-999999999", "-1000000000", "-999999999", "-999999999"},
		{nines + ".9", "9." + nines[1:] + "e398", "9." + nines[1:] + "e398", "1e399", "1e399"}, {"-" + nines + ".1", "-9." + nines[1:] + "e398", "-1e399", "-9." + nines[1:] + "e398", "-9." + nines[1:] + "e398"},
	} {
		d := read(t, c.d)
		trunc, floor, ceil, round := textOf(quot.Trunc(d)), textOf(quot.Floor(d)), textOf(quot.Ceil(d)), textOf(quot.Round(d))
		if trunc != c.trunc || floor != c.floor || ceil != c.ceil || round != c.round {
			t.Errorf("%s: %s, %s, %s, %s", c.d, trunc, floor, ceil, round)
		}
	}
}

func TestAbsAndWholeByHand(t *testing.T) {
	for _, c := range []struct {
		d, abs string
		whole  bool
	}{
		{"0", "0", true}, {"-1.9", "1.9", false}, {"1.9", "1.9", false}, {"-3", "3", true}, {"3.0", "3", true}, {"-1e10000", "1e10000", true}, {"-1e-10000", "1e-10000", false}, {"1e300", "1e300", true}, {"0.1", "0.1", false}, {"12.50e1", "125", true}, {"12.5", "12.5", false},
	} {
		d := read(t, c.d)
		if got := textOf(quot.Abs(d)); got != c.abs {
			t.Errorf("Abs(%s): %s", c.d, got)
		}
		if got := quot.Whole(d); got != c.whole {
			t.Errorf("Whole(%s): %t", c.d, got)
		}
	}
	if !quot.Whole(api.Dec{Limbs: []uint32{250}, Exp: -1}) || quot.Whole(api.Dec{Limbs: []uint32{250}, Exp: -2}) {
		t.Error("Whole of numbers that aren't plain")
	}
	for _, d := range []api.Dec{{Limbs: []uint32{1}, Exp: 10001}, {Limbs: []uint32{1}, Exp: 30001}, {Exp: 30001}, {Limbs: make([]uint32, 201)}, {Limbs: []uint32{1}, Exp: 30000}} {
		if quot.Whole(d) {
			t.Errorf("Whole%s", show(d))
		}
	}
}

func TestIntByHand(t *testing.T) {
	for _, c := range []struct {
		d    string
		want int
		err  api.Errno
	}{
		{"0", 0, api.OK}, {"-0", 0, api.OK}, {"7", 7, api.OK}, {"-7", -7, api.OK}, {"1e3", 1000, api.OK}, {"-12.50e1", -125, api.OK}, {"999999999", 999999999, api.OK}, {"-1000000000", -1000000000, api.OK}, {"1000000001", 1000000001, api.OK}, {"1e15", 1000000000000000, api.OK}, {"9e15", 9000000000000000, api.OK},
		{"9007199254740991", 9007199254740991, api.OK}, {"9007199254740992", 9007199254740992, api.OK}, {"9007199254740993", 0, api.ErrRange}, {"-9007199254740992", -9007199254740992, api.OK}, {"-9007199254740993", 0, api.ErrRange},
		{"9.1e15", 0, api.ErrRange}, {"1e16", 0, api.ErrRange}, {"-1e16", 0, api.ErrRange}, {"1e400", 0, api.ErrRange}, {"1e10000", 0, api.ErrRange}, {"-1e10000", 0, api.ErrRange}, {"18446744073709551616", 0, api.ErrRange},
		{"1.5", 0, api.ErrKind}, {"-0.1", 0, api.ErrKind}, {"1e-10000", 0, api.ErrKind}, {"9007199254740992.5", 0, api.ErrKind}, {"10000000000000000000000.5", 0, api.ErrKind},
	} {
		if got, err := quot.Int(read(t, c.d)); got != c.want || err != c.err {
			t.Errorf("Int(%s): %d, %d", c.d, got, err)
		}
	}
	for _, c := range []struct {
		d   api.Dec
		err api.Errno
	}{
		{api.Dec{Exp: 30001}, api.ErrArg}, {api.Dec{Limbs: make([]uint32, 201)}, api.ErrArg}, {api.Dec{Limbs: []uint32{1}, Exp: 10001}, api.ErrRange}, {api.Dec{Limbs: []uint32{1}, Exp: -10001}, api.ErrRange},
	} {
		if got, err := quot.Int(c.d); got != 0 || err != c.err {
			t.Errorf("Int%s: %d, %d", show(c.d), got, err)
		}
	}
}

// TestFloorAndCeil wants them the same or one apart, the number between them, and Round and Trunc to be one of them.
func TestFloorAndCeil(t *testing.T) {
	for _, d := range some(10, 2000) {
		floor, _ := quot.Floor(d)
		ceil, _ := quot.Ceil(d)
		round, _ := quot.Round(d)
		trunc, _ := quot.Trunc(d)
		below, _ := dec.Cmp(floor, d)
		above, _ := dec.Cmp(d, ceil)
		next := floor
		if !quot.Whole(d) {
			next, _ = dec.Add(floor, dec.Of(1))
		}
		if below > 0 || above > 0 || !same(next, ceil) {
			t.Errorf("%s:%s to%s", show(d), show(floor), show(ceil))
		}
		if !same(round, floor) && !same(round, ceil) || !same(trunc, floor) && !same(trunc, ceil) {
			t.Errorf("%s:%s, between%s", show(d), show(round, trunc), show(floor, ceil))
		}
	}
}

// answers are what all calls tell that tell Decs.
func answers(a, b api.Dec) []api.Dec {
	told := make([]api.Dec, 7)
	told[0], _ = quot.Div(a, b)
	told[1], _ = quot.Rem(a, b)
	told[2], _ = quot.Trunc(a)
	told[3], _ = quot.Floor(a)
	told[4], _ = quot.Ceil(a)
	told[5], _ = quot.Round(a)
	told[6], _ = quot.Abs(a)
	return told
}

// roomy is a list with more behind its end, as a piece of a longer one has.
func roomy(l []uint32) []uint32 {
	return append(slices.Clone(l), 77, 77, 77)
}

// TestArgumentsStay writes all over what was told: arguments, and other answers, must not see it.
func TestArgumentsStay(t *testing.T) {
	as := append(edges(t), some(11, 200)...)
	for i, a := range as {
		for _, b := range []api.Dec{{}, {Limbs: []uint32{1}}, as[(i+7)%len(as)]} {
			roomA, roomB := roomy(a.Limbs), roomy(b.Limbs)
			x, y := a, b
			x.Limbs, y.Limbs = roomA[:len(a.Limbs)], roomB[:len(b.Limbs)]
			want := answers(a, b)
			for i, d := range want {
				want[i].Limbs = slices.Clone(d.Limbs)
			}
			quot.Whole(x)
			quot.Int(x)
			for i, d := range answers(x, y) {
				if !same(d, want[i]) {
					t.Fatalf("answer %d of%s: overwritten", i, show(a, b))
				}
				all := d.Limbs[:cap(d.Limbs)]
				for j := range all {
					all[j] = 88
				}
			}
			if !slices.Equal(roomA, roomy(a.Limbs)) || !slices.Equal(roomB, roomy(b.Limbs)) {
				t.Fatalf("%s are not what they were", show(a, b))
			}
		}
	}
}
