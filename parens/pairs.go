package parens

// noMore finds, as find does, the first place with an excess of no more than that given. As excesses rise and fall by 1, it is just that, where it is more at the place ahead.
func (v *Vector) noMore(i, step, excess int) int {
	return v.find(i, step, func(least, many int) bool { return least <= excess })
}

// Close finds the bracket that closes one.
func (v *Vector) Close(i int) int {
	if !v.Opens(i) {
		return -1
	}
	behind := v.noMore(i+1, 1, v.Excess(i))
	if behind < 0 {
		return -1
	}
	return behind - 1
}

// Open finds the bracket that opens one.
func (v *Vector) Open(i int) int {
	if !v.has(i) || v.Opens(i) {
		return -1
	}
	return v.noMore(i-1, -1, v.Excess(i+1))
}

// Enclose finds the pair that a bracket stands in. Between one that opens and what closes it, the excess is more than at the first: so of those ahead of i none but the last place that has less than i leaves can enclose it. If nothing closes that one, nothing closes a pair around it.
func (v *Vector) Enclose(i int) int {
	if !v.has(i) {
		return -1
	}
	around := v.noMore(i-1, -1, min(v.Excess(i), v.Excess(i+1))-1)
	if v.Close(around) < 0 {
		return -1
	}
	return around
}

// Size counts the pairs of a pair.
func (v *Vector) Size(i int) int {
	last := v.Close(i)
	if last < 0 {
		return 0
	}
	return (last - i + 1) / 2
}

// Child finds a pair within. Each child begins at a place that has 1 more than the pair's begin, the least there is within the pair: the k-th of these places is looked for, skipped by as many as a block has.
func (v *Vector) Child(i, k int) int {
	last := v.Close(i)
	if last < 0 || k < 0 {
		return -1
	}
	excess := v.Excess(i) + 1
	child := v.find(i+1, 1, func(least, many int) bool {
		if least < excess || least == excess && k < many {
			return true
		}
		if least == excess {
			k -= many
		}
		return false
	})
	if child >= last {
		return -1
	}
	return child
}
