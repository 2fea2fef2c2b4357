package value

import (
	"iter"

	"lorgnette/api"
)

// What a value has at most that isn't heavy.
const (
	lightValues = 65536
	lightBytes  = 1000000
)

// Depth is how deep a value is.
func Depth(v api.Value) int {
	return depth(v, api.MaxDepth)
}

// depth is a value's depth, but one more than so many levels for any that is deeper. It doesn't look further when it has found one that deep, so that it ends also where a value stands in itself.
func depth(v api.Value, levels int) int {
	if v.Kind != api.Array && v.Kind != api.Object {
		return 0
	}
	deepest := 1
	for within := range inside(v) {
		if deepest > levels {
			break
		}
		deepest = max(deepest, 1+depth(within, levels-1))
	}
	return deepest
}

// Size is how many values it has.
func Size(v api.Value) int {
	size := 0
	for range all(v) {
		size++
	}
	return size
}

// Heavy tells whether a value is too much. It asks for no more values than may be, however many there are.
func Heavy(v api.Value) bool {
	values, bytes := 0, 0
	for within := range all(v) {
		values++
		bytes += len(within.Str)
		for _, field := range within.Obj {
			bytes += len(field.Key)
		}
		if values > lightValues || bytes > lightBytes {
			return true
		}
	}
	return false
}

// inside are the values that stand in a value, whatever its kind: its items, and what its fields have.
func inside(v api.Value) iter.Seq[api.Value] {
	return func(yield func(api.Value) bool) {
		for _, item := range v.Arr {
			if !yield(item) {
				return
			}
		}
		for _, field := range v.Obj {
			if !yield(field.Val) {
				return
			}
		}
	}
}

// all are a value and those within it, but for those too deep.
func all(v api.Value) iter.Seq[api.Value] {
	return func(yield func(api.Value) bool) {
		tell(v, api.MaxDepth, yield)
	}
}

// tell tells a value and those within it, down to so many levels, as long as more are asked for: whether they still are.
func tell(v api.Value, levels int, yield func(api.Value) bool) bool {
	if !yield(v) {
		return false
	}
	if levels == 0 {
		return true
	}
	for within := range inside(v) {
		if !tell(within, levels-1, yield) {
			return false
		}
	}
	return true
}
