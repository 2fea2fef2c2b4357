// Package clone copies values, so that layers which tell parts of what they were handed in share nothing with it.
package clone

import (
	"slices"

	"lorgnette/api"
)

// Value is a value that shares no list with the one it is made from.
func Value(v api.Value) api.Value {
	v.Num.Limbs = slices.Clone(v.Num.Limbs)
	v.Arr = Items(v.Arr)
	v.Obj = Fields(v.Obj)
	return v
}

// Items are items' clones.
func Items(items []api.Value) []api.Value {
	l := make([]api.Value, len(items))
	for i, item := range items {
		l[i] = Value(item)
	}
	return l
}

// Fields are the same keys, with clones of what they have.
func Fields(fields []api.Field) []api.Field {
	l := make([]api.Field, len(fields))
	for i, field := range fields {
		l[i] = api.Field{Key: field.Key, Val: Value(field.Val)}
	}
	return l
}
