package dec_test

import (
	"math/big"
	"testing"

	"lorgnette/api"
	"lorgnette/dec"
)

// together are two numbers' sizes at one power.
func together(a, b api.Dec) (x, y *big.Int, exp int) {
	p, q := worth(a), worth(b)
	exp = min(p.exp, q.exp)
	return p.size.Mul(p.size, tenTo(p.exp-exp)), q.size.Mul(q.size, tenTo(q.exp-exp)), exp
}

func checkPair(t *testing.T, a, b api.Dec) {
	t.Helper()
	wantErr := taken(a, b)
	wantCmp, sum, product, sumErr, productErr := 0, api.Dec{}, api.Dec{}, wantErr, wantErr
	if wantErr == api.OK {
		x, y, exp := together(a, b)
		wantCmp = x.Cmp(y)
		sum, sumErr = plain(number{new(big.Int).Add(x, y), exp})
		p, q := worth(a), worth(b)
		product, productErr = plain(number{p.size.Mul(p.size, q.size), p.exp + q.exp})
	}
	if got, err := dec.Cmp(a, b); got != wantCmp || err != wantErr {
		t.Errorf("Cmp%s: %d, %d, not %d, %d", show(a, b), got, err, wantCmp, wantErr)
	}
	got, err := dec.Add(a, b)
	check(t, "Add"+show(a, b), got, err, sum, sumErr)
	got, err = dec.Mul(a, b)
	check(t, "Mul"+show(a, b), got, err, product, productErr)
}

func TestPairsOfEdges(t *testing.T) {
	for _, a := range edges() {
		for _, b := range edges() {
			checkPair(t, a, b)
		}
	}
}

func TestPairsOfMany(t *testing.T) {
	as, bs := some(5, 3000), some(6, 3000)
	for i, a := range as {
		checkPair(t, a, bs[i])
		checkPair(t, a, a)
		checkPair(t, a, api.Dec{Neg: !a.Neg, Limbs: a.Limbs, Exp: a.Exp})
	}
}

// read is a number that tests write as text.
func read(t *testing.T, s string) api.Dec {
	t.Helper()
	d, err := dec.Parse(s)
	if err != api.OK {
		t.Fatalf("%s: %d", s, err)
	}
	return d
}

func TestSumsByHand(t *testing.T) {
	for _, c := range []struct{ a, b, sum, product string }{
		{"0.1", "0.2", "0.3", "0.02"}, {"1", "-1", "0", "-1"}, {"0", "-5", "-5", "0"}, {"-0.5", "-0.5", "-1", "0.25"}, {"999999999", "1", "1000000000", "999999999"},
		{"-7", "3", "-4", "-21"}, {"3", "-7", "-4", "-21"}, {"1e30", "1", "1." + noughts(29) + "1e30", "1e30"}, {"12.5", "-2.5", "10", "-31.25"},
		{"1e10000", "-1e10000", "0", ""}, {"1e10000", "0", "1e10000", "0"}, {"9e10000", "-8e10000", "1e10000", ""}, {"1e-10000", "0", "1e-10000", "0"}, {"6e-10000", "-6e-10000", "0", ""},
		{"9e10000", "1e10000", "", ""}, {"1e10000", "1e9602", "1." + noughts(397) + "1e10000", ""}, {"1e400", "1", "", "1e400"}, {"1e399", "1", "1." + noughts(398) + "1e399", "1e399"}, {"1e5000", "1e5001", "1.1e5001", ""},
		{"1e5000", "1e5000", "2e5000", "1e10000"}, {"1e-5000", "1e-5000", "2e-5000", "1e-10000"}, {"1e-5000", "1e-5001", "1.1e-5000", ""}, {"1e10000", "1e-10000", "", "1"}, {"1.1e-10000", "-1e-10000", "", ""},
		{"1e-10000", "10", "", "1e-9999"}, {"-1e10000", "0.1", "", "-1e9999"},
	} {
		a, b := read(t, c.a), read(t, c.b)
		checkText(t, "Add", a, b, c.sum, dec.Add)
		checkText(t, "Mul", a, b, c.product, dec.Mul)
	}
}

// noughts is so many noughts.
func noughts(n int) string {
	return tenTo(n).String()[1:]
}

// checkText wants that number of call, or ErrRange if want is empty.
func checkText(t *testing.T, name string, a, b api.Dec, want string, call func(a, b api.Dec) (api.Dec, api.Errno)) {
	t.Helper()
	got, err := call(a, b)
	if want == "" {
		check(t, name+show(a, b), got, err, api.Dec{}, api.ErrRange)
		return
	}
	if text, _ := dec.Text(got); text != want || err != api.OK {
		t.Errorf("%s%s: %s, %d, not %s", name, show(a, b), text, err, want)
	}
}

func TestCmpByHand(t *testing.T) {
	rising := []string{"-1e10000", "-9e9999", "-1000000001", "-10", "-9.9", "-1", "-0.2", "-0.1", "-1e-10000", "0", "1e-10000", "9e-10000", "1e-9999", "0.1", "0.19", "0.2", "1", "9", "10", "10.5", "999999999", "1e9", "1e10000", "9.9e10000"}
	for i, a := range rising {
		for j, b := range rising {
			want := 0
			if i < j {
				want = -1
			} else if i > j {
				want = 1
			}
			if got, err := dec.Cmp(read(t, a), read(t, b)); got != want || err != api.OK {
				t.Errorf("Cmp(%s, %s): %d, %d", a, b, got, err)
			}
		}
	}
}

// TestErrorsInTheirOrder wants ErrArg ahead of ErrRange, whichever of the two numbers it comes from.
func TestErrorsInTheirOrder(t *testing.T) {
	may, far, notNear := api.Dec{Limbs: []uint32{1}}, api.Dec{Limbs: []uint32{1}, Exp: 10001}, api.Dec{Exp: 30001}
	for _, c := range []struct {
		a, b api.Dec
		want api.Errno
	}{
		{may, notNear, api.ErrArg}, {notNear, may, api.ErrArg}, {far, notNear, api.ErrArg}, {notNear, far, api.ErrArg}, {notNear, notNear, api.ErrArg},
		{may, far, api.ErrRange}, {far, may, api.ErrRange}, {far, far, api.ErrRange}, {api.Dec{}, far, api.ErrRange}, {far, api.Dec{}, api.ErrRange},
	} {
		if got, err := dec.Cmp(c.a, c.b); got != 0 || err != c.want {
			t.Errorf("Cmp%s: %d, %d", show(c.a, c.b), got, err)
		}
		if got, err := dec.Add(c.a, c.b); !isNothing(got) || err != c.want {
			t.Errorf("Add%s:%s, %d", show(c.a, c.b), show(got), err)
		}
		if got, err := dec.Mul(c.a, c.b); !isNothing(got) || err != c.want {
			t.Errorf("Mul%s:%s, %d", show(c.a, c.b), show(got), err)
		}
	}
}
