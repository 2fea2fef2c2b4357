package place

import (
	"slices"

	"lorgnette/api"
	"lorgnette/clone"
)

// maxIndex is the last index at which may be set.
const maxIndex = 65535

// load is what is set, and, from the last step on back, all that it is put into. It shares nothing with what was handed in. Its depth is as deep as what is set makes it: whatever else it has stands as deep as it did in a value that was not too deep.
type load struct {
	v     api.Value
	depth int
}

// put puts the load where a step leads from a value. The step has been gone: a text as a key has led from an object or Null, a number from an array or Null, and Null counts as having nothing.
func (l *load) put(v, k api.Value) api.Errno {
	switch k := stepOf(k).(type) {
	case key:
		return l.putKey(v.Obj, k)
	case index:
		return l.putIndex(v.Arr, k)
	case slice:
		if v.Kind != api.Text && l.v.Kind == api.Array {
			return l.putSlice(v.Arr, k)
		}
	}
	return api.ErrKind
}

// putKey puts the load under a key among fields.
func (l *load) putKey(fields []api.Field, k key) api.Errno {
	if !l.deepen() {
		return api.ErrDepth
	}
	at := k.in(fields)
	if at < 0 {
		at = len(fields)
	}
	set := append(clone.Fields(fields[:at]), api.Field{Key: string(k), Val: l.v})
	set = append(set, clone.Fields(fields[min(at+1, len(fields)):])...)
	l.v = api.Value{Kind: api.Object, Obj: set}
	return api.OK
}

// putIndex puts the load at an index among items.
func (l *load) putIndex(items []api.Value, n index) api.Errno {
	at, err := n.in(len(items))
	switch {
	case err != api.OK:
		return err
	case at < 0:
		return api.ErrRange
	case at > maxIndex:
		return api.ErrSize
	case !l.deepen():
		return api.ErrDepth
	}
	set := make([]api.Value, max(len(items), at+1))
	copy(set, clone.Items(items[:min(at, len(items))]))
	set[at] = l.v
	copy(set[at+1:], clone.Items(items[min(at+1, len(items)):]))
	l.v = api.Value{Kind: api.Array, Arr: set}
	return api.OK
}

// putSlice puts the load's items where a slice of items is.
func (l *load) putSlice(items []api.Value, k slice) api.Errno {
	from, to, err := k.in(len(items))
	if err != api.OK {
		return err
	}
	l.v.Arr = slices.Concat(clone.Items(items[:from]), l.v.Arr, clone.Items(items[to:]))
	return api.OK
}

// deepen is for a load that is put into something: whether it isn't too deep then.
func (l *load) deepen() bool {
	l.depth++
	return l.depth <= api.MaxDepth
}
