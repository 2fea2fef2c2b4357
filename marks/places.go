package marks

import (
	"math/bits"

	"lorgnette/api"
)

// Next is the next place where something stands.
func Next(x api.Index, i int) int {
	end := max(x.Len, 0)
	i = max(i, 0)
	ahead := firstBits(i % size) // of the first word that is looked at
	for k := i / size; k < len(x.Words); k++ {
		m := x.Words[k]
		if found := (m.Quote | signs(m)) &^ ahead; found != 0 {
			return min(k*size+bits.TrailingZeros64(found), end)
		}
		ahead = 0
	}
	return end
}

// Brackets tells which brackets open.
func Brackets(x api.Index) ([]uint64, int) {
	var l []uint64
	n := 0
	for _, m := range x.Words {
		for left := m.Open | m.Close; left != 0; left &= left - 1 {
			if n%size == 0 {
				l = append(l, 0)
			}
			opens := m.Open >> bits.TrailingZeros64(left) & 1
			l[n/size] |= opens << (n % size)
			n++
		}
	}
	return l, n
}
