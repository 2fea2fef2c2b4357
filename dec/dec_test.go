package dec_test

import (
	"math"
	"math/big"
	"math/rand"
	"slices"
	"strconv"
	"strings"
	"testing"

	"lorgnette/api"
	"lorgnette/dec"
)

// number is what tests reckon with: size times ten to the exp.
type number struct {
	size *big.Int
	exp  int
}

func tenTo(n int) *big.Int {
	return new(big.Int).Exp(big.NewInt(10), big.NewInt(int64(n)), nil)
}

// worth is a Dec's worth, as the document tells it.
func worth(d api.Dec) number {
	size := new(big.Int)
	for i := len(d.Limbs) - 1; i >= 0; i-- {
		size.Mul(size, big.NewInt(api.LimbBase))
		size.Add(size, big.NewInt(int64(d.Limbs[i])))
	}
	if d.Neg {
		size.Neg(size)
	}
	return number{size, d.Exp}
}

// limbsOf cuts decimal digits into limbs, nine by nine from the end.
func limbsOf(digits string) []uint32 {
	var l []uint32
	for end := len(digits); end > 0; end -= 9 {
		value, _ := strconv.Atoi(digits[max(0, end-9):end])
		l = append(l, uint32(value))
	}
	return l
}

// plain is a number's plain Dec, or ErrRange if that may not be.
func plain(n number) (api.Dec, api.Errno) {
	if n.size.Sign() == 0 {
		return api.Dec{}, api.OK
	}
	all := new(big.Int).Abs(n.size).String()
	digits := strings.TrimRight(all, "0")
	exp := n.exp + len(all) - len(digits)
	head := exp + len(digits) - 1
	if len(digits) > 400 || head < -10000 || head > 10000 {
		return api.Dec{}, api.ErrRange
	}
	return api.Dec{Neg: n.size.Sign() < 0, Limbs: limbsOf(digits), Exp: exp}, api.OK
}

// taken is what every call says of the numbers that it is given, before it does anything else.
func taken(ds ...api.Dec) api.Errno {
	for _, d := range ds {
		if len(d.Limbs) > 200 || d.Exp < -30000 || d.Exp > 30000 {
			return api.ErrArg
		}
	}
	for _, d := range ds {
		if _, err := plain(worth(d)); err != api.OK {
			return err
		}
	}
	return api.OK
}

func same(a, b api.Dec) bool {
	return a.Neg == b.Neg && a.Exp == b.Exp && slices.Equal(a.Limbs, b.Limbs)
}

// isNothing tells whether a Dec is the zero value.
func isNothing(d api.Dec) bool {
	return same(d, api.Dec{})
}

// show is short enough for a message.
func show(ds ...api.Dec) string {
	var text strings.Builder
	for _, d := range ds {
		text.WriteString(" {" + strconv.FormatBool(d.Neg) + " " + strconv.Itoa(len(d.Limbs)) + " limbs:")
		for _, l := range d.Limbs[:min(3, len(d.Limbs))] {
			text.WriteString(" " + strconv.Itoa(int(l)))
		}
		text.WriteString(" e" + strconv.Itoa(d.Exp) + "}")
	}
	return text.String()
}

// check holds a told number against the wanted one.
func check(t *testing.T, call string, got api.Dec, err api.Errno, want api.Dec, wantErr api.Errno) {
	t.Helper()
	if !same(got, want) || err != wantErr {
		t.Errorf("%s:%s, %d, not%s, %d", call, show(got), err, show(want), wantErr)
	}
}

// limbs is count limbs, all of them fill but the highest one.
func limbs(count int, fill, highest uint32) []uint32 {
	l := slices.Repeat([]uint32{fill}, count)
	l[count-1] = highest
	return l
}

// nines is a number of so many digits, all 9.
func nines(digits int) []uint32 {
	return limbsOf(strings.Repeat("9", digits))
}

// zeros are all the ways in which 0 is told of.
func zeros() []api.Dec {
	return []api.Dec{
		{}, {Neg: true}, {Limbs: []uint32{}}, {Limbs: []uint32{0}}, {Neg: true, Limbs: []uint32{0, 0}},
		{Exp: 1}, {Exp: -1}, {Exp: 10001}, {Neg: true, Exp: 30000}, {Exp: -30000}, {Limbs: make([]uint32, 200)},
	}
}

// ordinary are numbers of everyday, each plain.
func ordinary() []api.Dec {
	return []api.Dec{
		{Limbs: []uint32{1}}, {Neg: true, Limbs: []uint32{1}}, {Limbs: []uint32{1}, Exp: -1}, {Limbs: []uint32{2}, Exp: -1},
		{Neg: true, Limbs: []uint32{125}}, {Limbs: []uint32{125}, Exp: -1}, {Limbs: []uint32{1}, Exp: 9}, {Neg: true, Limbs: []uint32{7, 3}, Exp: -4},
		{Limbs: []uint32{999999999}}, {Limbs: []uint32{999999999, 999999999}, Exp: -9}, {Limbs: []uint32{5}, Exp: 400},
	}
}

// notPlain are numbers that aren't plain, while the plain Decs of their worths may be.
func notPlain() []api.Dec {
	return []api.Dec{
		{Limbs: []uint32{10}}, {Limbs: []uint32{120}}, {Limbs: []uint32{100000000}}, {Neg: true, Limbs: []uint32{5, 0}}, {Limbs: []uint32{0, 1}},
		{Limbs: []uint32{0, 0, 70}, Exp: -20}, {Limbs: []uint32{1000000000}}, {Neg: true, Limbs: []uint32{1000000001}}, {Limbs: []uint32{math.MaxUint32}, Exp: 3},
		{Limbs: []uint32{math.MaxUint32, math.MaxUint32}, Exp: -3}, {Limbs: []uint32{3000000000, 7}}, {Limbs: []uint32{1, 2, 0, 0}},
		{Limbs: append([]uint32{0}, nines(400)...)},         // 409 digits
		{Neg: true, Limbs: limbs(200, 0, 1), Exp: -1791},    // 1
		{Limbs: limbs(200, 0, math.MaxUint32), Exp: 8200},   // head 10000
		{Limbs: limbs(200, 0, 1000000000), Exp: -11800},     // head -10000
		{Neg: true, Limbs: limbs(60, 0, 70), Exp: -10532},   // head -10000
		{Limbs: append(nines(400), make([]uint32, 155)...)}, // 200 limbs
	}
}

// atLimits are numbers beside the limits of those that may be, on both sides.
func atLimits() []api.Dec {
	return []api.Dec{
		{Limbs: nines(399)}, {Limbs: nines(400)}, {Limbs: nines(401)}, {Neg: true, Limbs: nines(400), Exp: -200}, {Neg: true, Limbs: nines(401), Exp: -200},
		{Limbs: limbsOf(strings.Repeat("9", 400) + "0")}, {Limbs: limbsOf("1" + strings.Repeat("0", 400))}, {Limbs: limbsOf("1" + strings.Repeat("0", 399) + "1")},
		{Limbs: []uint32{1}, Exp: 10000}, {Limbs: []uint32{1}, Exp: 10001}, {Neg: true, Limbs: []uint32{9}, Exp: 10000}, {Neg: true, Limbs: []uint32{12}, Exp: 10000},
		{Limbs: []uint32{12}, Exp: 9999}, {Limbs: []uint32{10}, Exp: 10000}, {Limbs: nines(400), Exp: 9601}, {Limbs: nines(400), Exp: 9602},
		{Limbs: []uint32{1}, Exp: -10000}, {Limbs: []uint32{1}, Exp: -10001}, {Neg: true, Limbs: []uint32{9}, Exp: -10000}, {Neg: true, Limbs: []uint32{9}, Exp: -10001},
		{Limbs: []uint32{12}, Exp: -10001}, {Limbs: []uint32{12}, Exp: -10002}, {Limbs: []uint32{10}, Exp: -10001}, {Limbs: nines(400), Exp: -10399}, {Limbs: nines(400), Exp: -10400},
		{Limbs: limbs(200, 1, 1)}, {Limbs: limbs(200, 0, math.MaxUint32), Exp: 8201}, {Limbs: limbs(200, 0, 1000000000), Exp: -11801},
		{Limbs: limbs(200, 0, 1), Exp: 30000}, {Limbs: []uint32{1}, Exp: 30000}, {Limbs: []uint32{1}, Exp: -30000}, {Limbs: limbs(200, 0, 1), Exp: -30000},
	}
}

// notNear are numbers that no call takes.
func notNear() []api.Dec {
	return []api.Dec{
		{Limbs: make([]uint32, 201)}, {Limbs: limbs(201, 0, 1)}, {Limbs: append([]uint32{1}, make([]uint32, 200)...)}, {Limbs: limbs(1000, 7, 7), Exp: -9000},
		{Exp: 30001}, {Exp: -30001}, {Limbs: []uint32{1}, Exp: 30001}, {Neg: true, Limbs: []uint32{1}, Exp: -30001}, {Limbs: limbs(200, 0, 1), Exp: -30001},
		{Limbs: []uint32{1}, Exp: math.MaxInt}, {Limbs: []uint32{1}, Exp: math.MinInt}, {Exp: math.MaxInt}, {Neg: true, Exp: math.MinInt},
	}
}

// some are more numbers, the same at each run: with few digits and small powers, so that sums and products of them often are in range.
func some(seed int64, count int) []api.Dec {
	chance := rand.New(rand.NewSource(seed))
	ds := make([]api.Dec, count)
	for i := range ds {
		l := make([]uint32, chance.Intn(5))
		for j := range l {
			switch chance.Intn(4) {
			case 0:
				l[j] = 0
			case 1:
				l[j] = uint32(chance.Intn(20))
			case 2:
				l[j] = uint32(chance.Intn(api.LimbBase))
			default:
				l[j] = chance.Uint32()
			}
		}
		ds[i] = api.Dec{Neg: chance.Intn(2) == 0, Limbs: l, Exp: chance.Intn(80) - 40}
	}
	return ds
}

// edges are all numbers that the document's limits make worth asking for.
func edges() []api.Dec {
	return slices.Concat(zeros(), ordinary(), notPlain(), atLimits(), notNear())
}

func TestNorm(t *testing.T) {
	for _, d := range append(edges(), some(1, 2000)...) {
		var want api.Dec
		wantErr := taken(d)
		if wantErr == api.OK {
			want, _ = plain(worth(d))
		}
		got, err := dec.Norm(d)
		check(t, "Norm"+show(d), got, err, want, wantErr)
	}
}

// TestNormByHand holds Norm against numbers written down, not reckoned.
func TestNormByHand(t *testing.T) {
	for _, c := range []struct {
		in, out api.Dec
		err     api.Errno
	}{
		{api.Dec{Limbs: []uint32{1200}, Exp: -1}, api.Dec{Limbs: []uint32{12}, Exp: 1}, api.OK},
		{api.Dec{Neg: true, Limbs: []uint32{0, 50, 0}}, api.Dec{Neg: true, Limbs: []uint32{5}, Exp: 10}, api.OK},
		{api.Dec{Limbs: []uint32{2000000005}}, api.Dec{Limbs: []uint32{5, 2}}, api.OK},
		{api.Dec{Neg: true, Exp: 7}, api.Dec{}, api.OK},
		{api.Dec{Neg: true, Limbs: make([]uint32, 200), Exp: -30000}, api.Dec{}, api.OK},
		{api.Dec{Limbs: limbs(200, 0, 3), Exp: -1791}, api.Dec{Limbs: []uint32{3}}, api.OK},
		{api.Dec{Limbs: []uint32{10}, Exp: 9999}, api.Dec{Limbs: []uint32{1}, Exp: 10000}, api.OK},
		{api.Dec{Limbs: []uint32{10}, Exp: 10000}, api.Dec{}, api.ErrRange},
		{api.Dec{Limbs: []uint32{1}, Exp: -10001}, api.Dec{}, api.ErrRange},
		{api.Dec{Limbs: nines(401)}, api.Dec{}, api.ErrRange},
		{api.Dec{Limbs: make([]uint32, 201)}, api.Dec{}, api.ErrArg},
		{api.Dec{Exp: 30001}, api.Dec{}, api.ErrArg},
		{api.Dec{Exp: -30001}, api.Dec{}, api.ErrArg},
	} {
		got, err := dec.Norm(c.in)
		check(t, "Norm"+show(c.in), got, err, c.out, c.err)
	}
}

func TestMay(t *testing.T) {
	for _, d := range append(edges(), some(2, 2000)...) {
		p, err := plain(worth(d))
		want := taken(d) == api.OK && err == api.OK && same(d, p)
		if got := dec.May(d); got != want {
			t.Errorf("May%s: %t", show(d), got)
		}
	}
	for _, d := range ordinary() {
		if !dec.May(d) {
			t.Errorf("May%s: false", show(d))
		}
	}
	for _, d := range notPlain() {
		if got, err := dec.Norm(d); !dec.May(got) || err != api.OK {
			t.Errorf("May of Norm%s: false, %d", show(d), err)
		}
	}
	for _, d := range slices.Concat(notPlain(), notNear(), zeros()[3:]) {
		if dec.May(d) {
			t.Errorf("May%s: true", show(d))
		}
	}
}

// TestMayAtLimits goes to each limit from within, and a step beyond it.
func TestMayAtLimits(t *testing.T) {
	for _, c := range []struct {
		d    api.Dec
		want bool
	}{
		{api.Dec{}, true}, {api.Dec{Neg: true}, false}, {api.Dec{Exp: 1}, false},
		{api.Dec{Limbs: nines(400)}, true}, {api.Dec{Limbs: nines(401)}, false},
		{api.Dec{Limbs: []uint32{1}, Exp: 10000}, true}, {api.Dec{Limbs: []uint32{1}, Exp: 10001}, false}, {api.Dec{Limbs: []uint32{11}, Exp: 10000}, false},
		{api.Dec{Limbs: []uint32{1}, Exp: -10000}, true}, {api.Dec{Limbs: []uint32{1}, Exp: -10001}, false}, {api.Dec{Limbs: []uint32{11}, Exp: -10001}, true},
		{api.Dec{Limbs: nines(400), Exp: -10399}, true}, {api.Dec{Limbs: nines(400), Exp: -10400}, false},
		{api.Dec{Limbs: []uint32{1}, Exp: math.MaxInt}, false}, {api.Dec{Limbs: []uint32{11}, Exp: math.MaxInt}, false}, {api.Dec{Limbs: []uint32{1}, Exp: math.MinInt}, false},
	} {
		if got := dec.May(c.d); got != c.want {
			t.Errorf("May%s: %t", show(c.d), got)
		}
	}
}

func TestOf(t *testing.T) {
	for _, n := range []int{0, 1, -1, 10, -120, 1000000000, 999999999, -1000000001, 4294967296, math.MaxInt, math.MinInt, math.MinInt + 1, -9000000000000000000} {
		want, wantErr := plain(number{big.NewInt(int64(n)), 0})
		check(t, "Of "+strconv.Itoa(n), dec.Of(n), api.OK, want, wantErr)
		if text, _ := dec.Text(dec.Of(n)); text != strconv.Itoa(n) {
			t.Errorf("Of %d: %s", n, text)
		}
	}
}

func TestNeg(t *testing.T) {
	for _, d := range append(edges(), some(3, 1000)...) {
		var want api.Dec
		wantErr := taken(d)
		if wantErr == api.OK {
			w := worth(d)
			want, _ = plain(number{w.size.Neg(w.size), w.exp})
		}
		got, err := dec.Neg(d)
		check(t, "Neg"+show(d), got, err, want, wantErr)
	}
	for _, d := range zeros() {
		got, err := dec.Neg(d)
		check(t, "Neg"+show(d), got, err, api.Dec{}, api.OK)
	}
}
