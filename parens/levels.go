package parens

const (
	wordShift  = 6 // a word's places are 2^6
	blockShift = 3 // a block is of 2^3 words, or of 2^3 smaller blocks
)

// level tells of the words, or of blocks of one size, one by one: the least excess at a place of it, and how many of its places have that.
type level struct {
	least, many []int
}

// levelsOf tells of the words, and then of greater and greater blocks, until one holds all the places.
func levelsOf(v *Vector) []level {
	l := []level{wordLevel(v)}
	for last := l[0]; len(last.least) > 1; {
		last = blockLevel(last)
		l = append(l, last)
	}
	return l
}

// wordLevel tells of the words.
func wordLevel(v *Vector) level {
	count := len(v.ranks)
	l := level{make([]int, count), make([]int, count)}
	for w := range count {
		begin := w * size
		excess := 2*v.ranks[w] - begin
		l.add(w, excess, 1)
		for i := begin; i < min(begin+size-1, v.n); i++ {
			excess += 2*int(v.words[w]>>(i-begin)&1) - 1
			l.add(w, excess, 1)
		}
	}
	return l
}

// blockLevel tells of blocks of what one level tells of.
func blockLevel(below level) level {
	count := (len(below.least)-1)>>blockShift + 1
	l := level{make([]int, count), make([]int, count)}
	for i, least := range below.least {
		l.add(i>>blockShift, least, below.many[i])
	}
	return l
}

// add reckons places of one excess in.
func (l level) add(i, excess, many int) {
	switch {
	case l.many[i] == 0 || excess < l.least[i]:
		l.least[i], l.many[i] = excess, many
	case excess == l.least[i]:
		l.many[i] += many
	}
}

// node is one place, at depth 0, or a word or block of them, at the depths behind it.
type node struct {
	depth, at int
}

// count tells how many nodes there are at a depth.
func (v *Vector) count(depth int) int {
	if depth == 0 {
		return v.n + 1
	}
	return len(v.levels[depth-1].least)
}

// least tells the least excess of a node's places, and how many of them have it.
func (v *Vector) least(x node) (excess, many int) {
	if x.depth == 0 {
		return v.Excess(x.at), 1
	}
	l := v.levels[x.depth-1]
	return l.least[x.at], l.many[x.at]
}

// shift tells what a node's number is shifted by, to be that of the node it is in.
func shift(depth int) int {
	if depth == 0 {
		return wordShift
	}
	return blockShift
}

// find goes by steps of 1 or -1, from place i on, to the first place at which the search holds; -1, if there is none. Of a word or block the search holds if it would hold at a place of it, coming from its near end; where it doesn't hold, the whole of it is skipped.
func (v *Vector) find(i, step int, holds func(least, many int) bool) int {
	x := node{0, i}
skip:
	for {
		if x.at < 0 || x.at >= v.count(x.depth) {
			return -1
		}
		if holds(v.least(x)) {
			break skip
		}
		next, by := x.at+step, shift(x.depth)
		if x.depth < len(v.levels) && next>>by != x.at>>by {
			x, next = node{x.depth + 1, x.at >> by}, next>>by
		}
		x.at = next
	}
	for x.depth > 0 {
		x = v.within(x, step, holds)
	}
	return x.at
}

// within finds the first node, of those that a node is made of, for which the search holds. A node that is gone back to isn't the last one of its depth, so it is made of as many as any.
func (v *Vector) within(x node, step int, holds func(least, many int) bool) node {
	depth := x.depth - 1
	by := shift(depth)
	y := node{depth, x.at << by}
	if step < 0 {
		y.at += 1<<by - 1
	}
	for !holds(v.least(y)) {
		y.at += step
	}
	return y
}
