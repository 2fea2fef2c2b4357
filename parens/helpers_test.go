package parens_test

import (
	"math"
	"math/rand"
	"strings"
	"testing"

	"lorgnette/parens"
)

// full is a word of brackets that open.
const full = ^uint64(0)

// odd are places, and numbers of brackets, that no vector has.
var odd = []int{math.MinInt, math.MinInt + 1, -65, -64, -2, -1, math.MaxInt - 64, math.MaxInt - 1, math.MaxInt}

// bitsOf reads brackets, round ones.
func bitsOf(text string) []bool {
	var l []bool
	for i := range len(text) {
		l = append(l, text[i] == '(')
	}
	return l
}

// pack makes words of bits, with all bits set behind the last one.
func pack(l []bool) []uint64 {
	words := make([]uint64, (len(l)+63)/64)
	for i := range 64 * len(words) {
		if i >= len(l) || l[i] {
			words[i/64] |= 1 << (i % 64)
		}
	}
	return words
}

func vectorOf(l []bool) *parens.Vector {
	return parens.New(pack(l), len(l))
}

func of(text string) *parens.Vector {
	return vectorOf(bitsOf(text))
}

// model is what a vector should tell of its bits, found by the document's words, place by place.
type model struct {
	bits                       []bool
	ranks, excess              []int // at 0 to n
	ones                       []int
	close, open, enclose, size []int
	children                   [][]int
}

func modelOf(l []bool) *model {
	m := &model{bits: l, ranks: []int{0}, excess: []int{0}, children: make([][]int, len(l))}
	for i, b := range l {
		rank, excess := m.ranks[i], m.excess[i]-1
		if b {
			rank, excess = rank+1, m.excess[i]+1
			m.ones = append(m.ones, i)
		}
		m.ranks, m.excess = append(m.ranks, rank), append(m.excess, excess)
	}
	for i := range l {
		m.close, m.open = append(m.close, m.closeOf(i)), append(m.open, m.openOf(i))
	}
	for i := range l {
		enclose := m.encloseOf(i)
		m.enclose = append(m.enclose, enclose)
		if enclose >= 0 && l[i] {
			m.children[enclose] = append(m.children[enclose], i)
		}
		size := 0
		for j := i; j < m.close[i]; j++ {
			if l[j] {
				size++
			}
		}
		m.size = append(m.size, size)
	}
	return m
}

func (m *model) closeOf(i int) int {
	for k := i + 1; m.bits[i] && k < len(m.bits); k++ {
		if m.excess[k+1] == m.excess[i] {
			return k
		}
	}
	return -1
}

func (m *model) openOf(i int) int {
	for k := i - 1; !m.bits[i] && k >= 0; k-- {
		if m.bits[k] && m.excess[k] == m.excess[i+1] {
			return k
		}
	}
	return -1
}

func (m *model) encloseOf(i int) int {
	for k := i - 1; k >= 0; k-- {
		if m.bits[k] && m.close[k] > max(i, m.close[i]) {
			return k
		}
	}
	return -1
}

// at is what a list has at a place, or none.
func at(l []int, i, none int) int {
	if i < 0 || i >= len(l) {
		return none
	}
	return l[i]
}

// hold asks a vector all that there is to ask, and more.
func hold(t *testing.T, l []bool) {
	t.Helper()
	m, v := modelOf(l), vectorOf(l)
	if v.Len() != len(l) {
		t.Fatalf("%s: Len %d", name(l), v.Len())
	}
	for i := -2; i < len(l)+3; i++ {
		holdPlace(t, m, v, i)
		holdChildren(t, m, v, i)
	}
	for _, i := range odd {
		holdPlace(t, m, v, i)
		holdChildren(t, m, v, i)
	}
}

func holdPlace(t *testing.T, m *model, v *parens.Vector, i int) {
	t.Helper()
	inside := min(max(i, 0), len(m.bits))
	for _, c := range []struct {
		call      string
		got, want int
	}{
		{"Rank", v.Rank(i), m.ranks[inside]}, {"Excess", v.Excess(i), m.excess[inside]}, {"Select", v.Select(i), at(m.ones, i, -1)},
		{"Close", v.Close(i), at(m.close, i, -1)}, {"Open", v.Open(i), at(m.open, i, -1)}, {"Enclose", v.Enclose(i), at(m.enclose, i, -1)}, {"Size", v.Size(i), at(m.size, i, 0)},
	} {
		if c.got != c.want {
			t.Fatalf("%s: %s(%d): %d, not %d", name(m.bits), c.call, i, c.got, c.want)
		}
	}
	if opens := i >= 0 && i < len(m.bits) && m.bits[i]; v.Opens(i) != opens {
		t.Fatalf("%s: Opens(%d): %v", name(m.bits), i, !opens)
	}
}

func holdChildren(t *testing.T, m *model, v *parens.Vector, i int) {
	t.Helper()
	var children []int
	if i >= 0 && i < len(m.bits) {
		children = m.children[i]
	}
	for k := -1; k < len(children)+2; k++ {
		if got, want := v.Child(i, k), at(children, k, -1); got != want {
			t.Fatalf("%s: Child(%d, %d): %d, not %d", name(m.bits), i, k, got, want)
		}
	}
	for _, k := range odd {
		if got := v.Child(i, k); got != -1 {
			t.Fatalf("%s: Child(%d, %d): %d", name(m.bits), i, k, got)
		}
	}
}

// name is a vector's brackets, as text.
func name(l []bool) string {
	var b strings.Builder
	for _, o := range l {
		b.WriteByte(")("[btoi(o)])
	}
	return b.String()
}

func btoi(b bool) int {
	if b {
		return 1
	}
	return 0
}

// small are all vectors of up to n bits.
func small(n int) [][]bool {
	var all [][]bool
	for size := range n + 1 {
		for x := range 1 << size {
			l := make([]bool, size)
			for i := range l {
				l[i] = x>>i&1 == 1
			}
			all = append(all, l)
		}
	}
	return all
}

// long are vectors beside the borders of words and blocks: deep ones, wide ones, what is left open or closed too often, and many by chance, the same at each run.
func long() [][]bool {
	var all [][]bool
	for _, n := range []int{1, 31, 32, 33, 62, 63, 64, 65, 127, 128, 129, 255, 256, 257, 511, 512, 513, 575, 576, 577} {
		for _, text := range []string{
			strings.Repeat("(", n), strings.Repeat(")", n), strings.Repeat("()", n/2), strings.Repeat(")(", n/2), strings.Repeat("(", n/2) + strings.Repeat(")", n/2), strings.Repeat(")", n/2) + strings.Repeat("(", n/2),
			"(" + strings.Repeat("()", n/2) + ")", "((" + strings.Repeat("()", n/2) + ")", "(" + strings.Repeat("()", n/2) + "))", "(" + strings.Repeat("(())", n/4) + ")", "(" + strings.Repeat("()", n/2), strings.Repeat("()", n/2) + ")", "(" + strings.Repeat("(", n) + strings.Repeat(")", n) + "())", strings.Repeat("(()", n/3), strings.Repeat("())", n/3),
		} {
			all = append(all, bitsOf(text))
		}
	}
	chance := rand.New(rand.NewSource(8))
	for n := range 260 {
		all = append(all, anyBits(chance, chance.Intn(300), 1+n%9), balanced(chance, chance.Intn(200), 1+n%9))
	}
	for n := range 12 {
		all = append(all, anyBits(chance, 1000+chance.Intn(600), 4+n%3), balanced(chance, 500+chance.Intn(400), 1+n%9))
	}
	return all
}

// anyBits are n bits, of which some tenths open.
func anyBits(chance *rand.Rand, n, tenths int) []bool {
	l := make([]bool, n)
	for i := range l {
		l[i] = chance.Intn(10) < tenths
	}
	return l
}

// balanced are pairs, the deeper the more tenths open.
func balanced(chance *rand.Rand, pairs, tenths int) []bool {
	var l []bool
	left, depth := pairs, 0
	for left > 0 || depth > 0 {
		opens := depth == 0 || left > 0 && chance.Intn(10) < tenths
		if opens {
			left, depth = left-1, depth+1
		} else {
			depth--
		}
		l = append(l, opens)
	}
	return l
}
