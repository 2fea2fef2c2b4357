package parens

import (
	"math/bits"
	"sort"
)

// ranksOf tells how many ones stand ahead of each of count words, of which the last one may hold no bits.
func ranksOf(words []uint64, count int) []int {
	ranks := make([]int, count)
	for w := 1; w < count; w++ {
		ranks[w] = ranks[w-1] + bits.OnesCount64(words[w-1])
	}
	return ranks
}

// Rank counts ones.
func (v *Vector) Rank(i int) int {
	i = v.clip(i)
	if i == 0 {
		return 0
	}
	rank := v.ranks[i/size]
	if i%size > 0 {
		rank += bits.OnesCount64(v.words[i/size] & (1<<(i%size) - 1))
	}
	return rank
}

// clip brings a place into the vector.
func (v *Vector) clip(i int) int {
	return min(max(i, 0), v.Len())
}

// Excess is how many brackets are open.
func (v *Vector) Excess(i int) int {
	return 2*v.Rank(i) - v.clip(i)
}

// Select finds the k-th one.
func (v *Vector) Select(k int) int {
	if k < 0 || k >= v.Rank(v.Len()) {
		return -1
	}
	w := sort.Search(len(v.ranks), func(w int) bool { return v.ranks[w] > k }) - 1
	left := v.words[w]
	for range k - v.ranks[w] {
		left &= left - 1
	}
	return w*size + bits.TrailingZeros64(left)
}
