package place

import (
	"slices"

	"lorgnette/api"
	"lorgnette/value"
)

// sortedOnce are paths as arrays, by their order, each once.
func sortedOnce(paths [][]api.Value) ([]api.Value, api.Errno) {
	l := make([]api.Value, len(paths))
	for i, path := range paths {
		l[i] = api.Value{Kind: api.Array, Arr: path}
	}
	sorted, err := value.Sort(l)
	if err != api.OK {
		return nil, err
	}
	return slices.CompactFunc(sorted, func(a, b api.Value) bool {
		order, _ := value.Cmp(a, b) // they were sorted: they may be
		return order == 0
	}), api.OK
}

// take takes away what a path leads to, where it stands. What is changed needn't be set step by step from the last one on back, but an item so far behind that it may not be set is an error nevertheless, which comes behind all those of the steps.
func take(v *api.Value, path []api.Value) api.Errno {
	if len(path) == 0 {
		*v = api.Value{}
		return api.OK
	}
	last := len(path) - 1
	at, late := spotOf(v), api.OK
	for _, k := range path[:last] {
		next, err := at.step(k)
		if err != api.OK {
			return err
		}
		if next.v.Kind == api.Null {
			return late
		}
		if at.isFar(k) {
			late = api.ErrSize
		}
		at = next
	}
	if err := at.drop(path[last]); err != api.OK {
		return err
	}
	return late
}

// isFar tells whether a step that has led to something has led to an item that may not be set.
func (s spot) isFar(k api.Value) bool {
	n, is := stepOf(k).(index)
	if !is {
		return false
	}
	at, _ := n.in(s.count()) // it led there: it is in range
	return at > maxIndex
}

// drop takes away what a step leads to.
func (s spot) drop(k api.Value) api.Errno {
	switch k := stepOf(k).(type) {
	case key:
		return s.dropKey(k)
	case index:
		return s.dropIndex(k)
	case slice:
		return s.dropSlice(k)
	}
	return api.ErrKind
}

func (s spot) dropKey(k key) api.Errno {
	switch s.v.Kind {
	case api.Null:
		return api.OK
	case api.Object:
		if at := k.in(s.v.Obj); at >= 0 {
			s.v.Obj = slices.Delete(s.v.Obj, at, at+1)
		}
		return api.OK
	}
	return api.ErrKind
}

func (s spot) dropIndex(n index) api.Errno {
	switch s.v.Kind {
	case api.Null:
		return api.OK
	case api.Array:
		at, err := n.in(s.count())
		if err == api.OK && at >= 0 && at < s.count() {
			s.dropItems(at, at+1)
		}
		return err
	}
	return api.ErrKind
}

func (s spot) dropSlice(k slice) api.Errno {
	switch s.v.Kind {
	case api.Null:
		return api.OK
	case api.Array:
		from, to, err := k.in(s.count())
		if err == api.OK {
			s.dropItems(from, to)
		}
		return err
	}
	return api.ErrKind
}

// dropItems takes away some of the spot's items.
func (s spot) dropItems(from, to int) {
	s.v.Arr = slices.Delete(s.v.Arr, s.from+from, s.from+to)
}
