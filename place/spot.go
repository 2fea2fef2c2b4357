package place

import (
	"unicode/utf8"

	"lorgnette/api"
	"lorgnette/utf"
)

// spot is where steps have led: to a value, of an array to its items from from to ahead of to. Slices one behind the other stay within the one array, so that what they lead to can be changed where it stands.
type spot struct {
	v        *api.Value
	from, to int
}

// spotOf is where all of a value stands.
func spotOf(v *api.Value) spot {
	return spot{v, 0, len(v.Arr)}
}

// count is how many items an array has there.
func (s spot) count() int {
	return s.to - s.from
}

// value is what stands there. It shares its lists.
func (s spot) value() api.Value {
	v := *s.v
	v.Arr = v.Arr[s.from:s.to]
	return v
}

// step goes a step.
func (s spot) step(k api.Value) (spot, api.Errno) {
	switch k := stepOf(k).(type) {
	case key:
		return s.stepKey(k)
	case index:
		return s.stepIndex(k)
	case slice:
		return s.stepSlice(k)
	}
	return spot{}, api.ErrKind
}

func (s spot) stepKey(k key) (spot, api.Errno) {
	switch s.v.Kind {
	case api.Null:
		return s, api.OK
	case api.Object:
		if at := k.in(s.v.Obj); at >= 0 {
			return spotOf(&s.v.Obj[at].Val), api.OK
		}
		return spotOf(&api.Value{}), api.OK
	}
	return spot{}, api.ErrKind
}

func (s spot) stepIndex(n index) (spot, api.Errno) {
	switch s.v.Kind {
	case api.Null:
		return s, api.OK
	case api.Array:
		at, err := n.in(s.count())
		switch {
		case err != api.OK:
			return spot{}, err
		case at < 0 || at >= s.count():
			return spotOf(&api.Value{}), api.OK
		}
		return spotOf(&s.v.Arr[s.from+at]), api.OK
	}
	return spot{}, api.ErrKind
}

func (s spot) stepSlice(k slice) (spot, api.Errno) {
	switch s.v.Kind {
	case api.Null:
		return s, api.OK
	case api.Array:
		from, to, err := k.in(s.count())
		if err != api.OK {
			return spot{}, err
		}
		return spot{s.v, s.from + from, s.from + to}, api.OK
	case api.Text:
		from, to, err := k.in(utf8.RuneCountInString(s.v.Str))
		if err != api.OK {
			return spot{}, err
		}
		return spotOf(&api.Value{Kind: api.Text, Str: utf.Slice(s.v.Str, from, to)}), api.OK
	}
	return spot{}, api.ErrKind
}
