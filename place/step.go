package place

import (
	"slices"

	"lorgnette/api"
	"lorgnette/quot"
)

// step is what a value asks for where it stands in a path: a key, an index, or a slice. Of a value that is no step it is nil.
type step interface {
	isStep()
}

// key is what a text asks for.
type key string

// index is what a number asks for.
type index api.Dec

// slice is what an object of start and end asks for: each of them a number, or Null.
type slice struct {
	start, end api.Value
}

func (key) isStep()   {}
func (index) isStep() {}
func (slice) isStep() {}

// stepOf is what a value asks for.
func stepOf(k api.Value) step {
	switch k.Kind {
	case api.Text:
		return key(k.Str)
	case api.Number:
		return index(k.Num)
	case api.Object:
		start, end := key("start").in(k.Obj), key("end").in(k.Obj)
		if len(k.Obj) == 2 && start >= 0 && end >= 0 && isBound(k.Obj[start].Val) && isBound(k.Obj[end].Val) {
			return slice{k.Obj[start].Val, k.Obj[end].Val}
		}
	}
	return nil
}

// isBound tells whether a value may say where a slice starts, or ends.
func isBound(v api.Value) bool {
	return v.Kind == api.Number || v.Kind == api.Null
}

// in is where a key's field stands; -1, if none has it.
func (k key) in(fields []api.Field) int {
	return slices.IndexFunc(fields, func(field api.Field) bool {
		return field.Key == string(k)
	})
}

// in is an index among so many items. It may be one where none of them stands.
func (n index) in(count int) (int, api.Errno) {
	return fromStart(api.Dec(n), count, quot.Floor)
}

// in are a slice's places among so many items.
func (s slice) in(count int) (from, to int, err api.Errno) {
	to = count
	if s.start.Kind == api.Number {
		if from, err = fromStart(s.start.Num, count, quot.Floor); err != api.OK {
			return 0, 0, err
		}
	}
	if s.end.Kind == api.Number {
		if to, err = fromStart(s.end.Num, count, quot.Ceil); err != api.OK {
			return 0, 0, err
		}
	}
	from = min(max(from, 0), count)
	return from, min(max(to, from), count), api.OK
}

// fromStart is a number made whole, and one below 0 counted from the end of so many items.
func fromStart(d api.Dec, count int, makeWhole func(api.Dec) (api.Dec, api.Errno)) (int, api.Errno) {
	whole, err := makeWhole(d)
	if err != api.OK {
		return 0, err
	}
	n, err := quot.Int(whole)
	if err != api.OK {
		return 0, err
	}
	if n < 0 {
		n += count
	}
	return n, api.OK
}
