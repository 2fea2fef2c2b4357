package quot_test

import (
	"math"
	"math/big"
	"math/rand"
	"slices"
	"strconv"
	"strings"
	"testing"

	"lorgnette/api"
	"lorgnette/dec"
)

// number is what tests reckon with: size times ten to the exp.
type number struct {
	size *big.Int
	exp  int
}

func tenTo(n int) *big.Int {
	return new(big.Int).Exp(big.NewInt(10), big.NewInt(int64(n)), nil)
}

// worth is a Dec's worth, as the document tells it.
func worth(d api.Dec) number {
	size := new(big.Int)
	for i := len(d.Limbs) - 1; i >= 0; i-- {
		size.Mul(size, big.NewInt(api.LimbBase))
		size.Add(size, big.NewInt(int64(d.Limbs[i])))
	}
	if d.Neg {
		size.Neg(size)
	}
	return number{size, d.Exp}
}

// limbsOf cuts decimal digits into limbs, nine by nine from the end.
func limbsOf(digits string) []uint32 {
	var l []uint32
	for end := len(digits); end > 0; end -= 9 {
		value, _ := strconv.Atoi(digits[max(0, end-9):end])
		l = append(l, uint32(value))
	}
	return l
}

// plain is a number's plain Dec, or ErrRange if that may not be.
func plain(n number) (api.Dec, api.Errno) {
	if n.size.Sign() == 0 {
		return api.Dec{}, api.OK
	}
	all := new(big.Int).Abs(n.size).String()
	digits := strings.TrimRight(all, "0")
	exp := n.exp + len(all) - len(digits)
	head := exp + len(digits) - 1
	if len(digits) > 400 || head < -10000 || head > 10000 {
		return api.Dec{}, api.ErrRange
	}
	return api.Dec{Neg: n.size.Sign() < 0, Limbs: limbsOf(digits), Exp: exp}, api.OK
}

// taken is what every call says of the numbers that it is given, before it does anything else.
func taken(ds ...api.Dec) api.Errno {
	for _, d := range ds {
		if len(d.Limbs) > 200 || d.Exp < -30000 || d.Exp > 30000 {
			return api.ErrArg
		}
	}
	for _, d := range ds {
		if _, err := plain(worth(d)); err != api.OK {
			return err
		}
	}
	return api.OK
}

func same(a, b api.Dec) bool {
	return a.Neg == b.Neg && a.Exp == b.Exp && slices.Equal(a.Limbs, b.Limbs)
}

// show is short enough for a message.
func show(ds ...api.Dec) string {
	var text strings.Builder
	for _, d := range ds {
		text.WriteString(" {" + strconv.FormatBool(d.Neg) + " " + strconv.Itoa(len(d.Limbs)) + " limbs:")
		for _, l := range d.Limbs[:min(4, len(d.Limbs))] {
			text.WriteString(" " + strconv.Itoa(int(l)))
		}
		text.WriteString(" e" + strconv.Itoa(d.Exp) + "}")
	}
	return text.String()
}

// check holds a told number against the wanted one.
func check(t *testing.T, call string, got api.Dec, err api.Errno, want api.Dec, wantErr api.Errno) {
	t.Helper()
	if !same(got, want) || err != wantErr {
		t.Errorf("%s:%s, %d, not%s, %d", call, show(got), err, show(want), wantErr)
	}
}

// read is a number that tests write as text.
func read(t *testing.T, s string) api.Dec {
	t.Helper()
	d, err := dec.Parse(s)
	if err != api.OK {
		t.Fatalf("%s: %d", s, err)
	}
	return d
}

// textOf is a told number's text; with an error, that error's name alone.
func textOf(d api.Dec, err api.Errno) string {
	text, _ := dec.Text(d)
	switch {
	case err == api.OK:
		return text
	case !same(d, api.Dec{}):
		return "an error with a number"
	case err == api.ErrArg:
		return "ErrArg"
	case err == api.ErrRange:
		return "ErrRange"
	case err == api.ErrZero:
		return "ErrZero"
	case err == api.ErrKind:
		return "ErrKind"
	}
	return "an error that isn't asked for"
}

func nines(digits int) []uint32 {
	return limbsOf(strings.Repeat("9", digits))
}

// zeros are ways in which 0 is told of.
func zeros() []api.Dec {
	return []api.Dec{
		{}, {Neg: true}, {Limbs: []uint32{}}, {Neg: true, Limbs: []uint32{0, 0}}, {Exp: 10001}, {Neg: true, Exp: -30000}, {Limbs: make([]uint32, 200)},
	}
}

// ordinary are numbers of everyday, on both sides of 0.
func ordinary(t *testing.T) []api.Dec {
	var ds []api.Dec
	for _, s := range []string{"1", "2", "3", "7", "8", "0.5", "0.1", "0.49", "0.51", "1.5", "2.5", "1.9", "12.5", "1e9", "999999999.5", "1000000000", "9.999999999", "1e-7", "6.02e23"} {
		ds = append(ds, read(t, s), read(t, "-"+s))
	}
	return ds
}

// notPlain are numbers that aren't plain, while the plain Decs of their worths may be.
func notPlain() []api.Dec {
	long := make([]uint32, 200)
	long[199] = 1
	return []api.Dec{
		{Limbs: []uint32{10}}, {Limbs: []uint32{250}, Exp: -2}, {Neg: true, Limbs: []uint32{5, 0}, Exp: -1}, {Limbs: []uint32{0, 70}, Exp: -20}, {Limbs: []uint32{1000000000}},
		{Neg: true, Limbs: []uint32{1000000001}}, {Limbs: []uint32{math.MaxUint32}, Exp: 3}, {Limbs: []uint32{math.MaxUint32, math.MaxUint32}, Exp: -12}, {Limbs: []uint32{3000000000, 7}},
		{Neg: true, Limbs: long, Exp: -1791}, {Limbs: long, Exp: -1792}, {Limbs: long, Exp: -11791}, {Neg: true, Limbs: append([]uint32{0}, nines(400)...), Exp: -10},
	}
}

// atLimits are numbers beside the limits of those that may be, and of those that have rests, on both sides.
func atLimits() []api.Dec {
	return []api.Dec{
		{Limbs: nines(400)}, {Limbs: nines(401)}, {Neg: true, Limbs: nines(400), Exp: -1}, {Limbs: nines(400), Exp: -399}, {Neg: true, Limbs: nines(400), Exp: -400}, {Limbs: nines(401), Exp: -200},
		{Limbs: limbsOf("1" + strings.Repeat("0", 399) + "1")}, {Limbs: nines(399)}, {Limbs: nines(399), Exp: 1}, {Limbs: nines(399), Exp: 2}, {Limbs: []uint32{1}, Exp: 399}, {Neg: true, Limbs: []uint32{1}, Exp: 400},
		{Limbs: []uint32{1}, Exp: 10000}, {Limbs: []uint32{1}, Exp: 10001}, {Neg: true, Limbs: []uint32{9}, Exp: 10000}, {Limbs: nines(400), Exp: 9601}, {Limbs: nines(400), Exp: 9602},
		{Limbs: []uint32{1}, Exp: -10000}, {Limbs: []uint32{1}, Exp: -10001}, {Neg: true, Limbs: []uint32{9}, Exp: -10000}, {Limbs: nines(400), Exp: -10399}, {Neg: true, Limbs: nines(400), Exp: -10400},
		{Limbs: []uint32{1}, Exp: 30000}, {Limbs: []uint32{1}, Exp: -30000},
		{Limbs: limbsOf("9007199254740991")}, {Limbs: limbsOf("9007199254740992")}, {Limbs: limbsOf("9007199254740993")},
		{Neg: true, Limbs: limbsOf("9007199254740992")}, {Neg: true, Limbs: limbsOf("9007199254740993")},
	}
}

// notNear are numbers that no call takes.
func notNear() []api.Dec {
	return []api.Dec{
		{Limbs: make([]uint32, 201)}, {Limbs: append([]uint32{1}, make([]uint32, 200)...)}, {Exp: 30001}, {Neg: true, Limbs: []uint32{1}, Exp: -30001},
		{Limbs: []uint32{1}, Exp: math.MaxInt}, {Limbs: []uint32{1}, Exp: math.MinInt},
	}
}

// edges are all numbers that the document's limits make worth asking for.
func edges(t *testing.T) []api.Dec {
	return slices.Concat(zeros(), ordinary(t), notPlain(), atLimits(), notNear())
}

// some are more numbers, the same at each run: with few limbs and small powers.
func some(seed int64, count int) []api.Dec {
	chance := rand.New(rand.NewSource(seed))
	ds := make([]api.Dec, count)
	for i := range ds {
		l := make([]uint32, chance.Intn(6))
		for j := range l {
			switch chance.Intn(4) {
			case 0:
				l[j] = 0
			case 1:
				l[j] = uint32(chance.Intn(20))
			case 2:
				l[j] = uint32(chance.Intn(api.LimbBase))
			default:
				l[j] = chance.Uint32()
			}
		}
		ds[i] = api.Dec{Neg: chance.Intn(2) == 0, Limbs: l, Exp: chance.Intn(80) - 55}
	}
	return ds
}
