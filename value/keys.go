package value

import (
	"slices"

	"lorgnette/api"
	"lorgnette/clone"
)

// Get is what an object has for a key.
func Get(v api.Value, key string) (api.Value, api.Errno) {
	if !May(v) || !isSound(key) {
		return api.Value{}, api.ErrArg
	}
	if !mayHaveKeys(v) {
		return api.Value{}, api.ErrKind
	}
	at := placeOf(v.Obj, key)
	if at < 0 {
		return api.Value{}, api.OK
	}
	return clone.Value(v.Obj[at].Val), api.OK
}

// With sets a key.
func With(v api.Value, key string, x api.Value) (api.Value, api.Errno) {
	if !May(v) || !isSound(key) || !May(x) {
		return api.Value{}, api.ErrArg
	}
	if !mayHaveKeys(v) {
		return api.Value{}, api.ErrKind
	}
	if Depth(x) >= api.MaxDepth { // what else the object has is no deeper than it may be
		return api.Value{}, api.ErrDepth
	}
	fields := clone.Fields(v.Obj)
	field := api.Field{Key: key, Val: clone.Value(x)}
	if at := placeOf(fields, key); at >= 0 {
		fields[at] = field
	} else {
		fields = append(fields, field)
	}
	return api.Value{Kind: api.Object, Obj: fields}, api.OK
}

// Without takes a key away.
func Without(v api.Value, key string) (api.Value, api.Errno) {
	if !May(v) || !isSound(key) {
		return api.Value{}, api.ErrArg
	}
	if !mayHaveKeys(v) {
		return api.Value{}, api.ErrKind
	}
	v = clone.Value(v)
	if at := placeOf(v.Obj, key); at >= 0 {
		v.Obj = slices.Delete(v.Obj, at, at+1)
	}
	return v, api.OK
}

// mayHaveKeys tells whether a value is asked for keys: an object, or Null, which has none.
func mayHaveKeys(v api.Value) bool {
	return v.Kind == api.Object || v.Kind == api.Null
}

// placeOf is where a key's field stands; -1, if none has it.
func placeOf(fields []api.Field, key string) int {
	return slices.IndexFunc(fields, func(field api.Field) bool {
		return field.Key == key
	})
}
