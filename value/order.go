package value

import (
	"cmp"
	"slices"

	"lorgnette/api"
	"lorgnette/clone"
	"lorgnette/dec"
	"lorgnette/utf"
)

// Cmp holds values against each other.
func Cmp(a, b api.Value) (int, api.Errno) {
	if !May(a) || !May(b) {
		return 0, api.ErrArg
	}
	return compare(arranged(a), arranged(b)), api.OK
}

// Sort puts values in order.
func Sort(l []api.Value) ([]api.Value, api.Errno) {
	ordered := make([]api.Value, len(l))
	for i, v := range l {
		if !May(v) {
			return nil, api.ErrArg
		}
		ordered[i] = arranged(v) // once for each value, not once for each time that two are compared
	}
	places := sortedPlaces(len(l), func(i, k int) int {
		return compare(ordered[i], ordered[k])
	})
	sorted := make([]api.Value, len(l))
	for i, place := range places {
		sorted[i] = clone.Value(l[place])
	}
	return sorted, api.OK
}

// sortedPlaces are the places below count in order; those that are the same stay as they are.
func sortedPlaces(count int, order func(i, k int) int) []int {
	places := make([]int, count)
	for i := range places {
		places[i] = i
	}
	slices.SortFunc(places, func(i, k int) int {
		return cmp.Or(order(i, k), cmp.Compare(i, k))
	})
	return places
}

// arranged is a value that may be, with the fields of all objects by the order of their keys. It shares texts and numbers with the value: it is only compared.
func arranged(v api.Value) api.Value {
	switch v.Kind {
	case api.Array:
		v.Arr = arrangedItems(v.Arr)
	case api.Object:
		v.Obj = arrangedFields(v.Obj)
	}
	return v
}

// arrangedItems are items, each arranged.
func arrangedItems(items []api.Value) []api.Value {
	l := make([]api.Value, len(items))
	for i, item := range items {
		l[i] = arranged(item)
	}
	return l
}

// arrangedFields are fields by the order of their keys, what they have arranged.
func arrangedFields(fields []api.Field) []api.Field {
	places := sortedPlaces(len(fields), func(i, k int) int {
		return utf.Cmp(fields[i].Key, fields[k].Key)
	})
	l := make([]api.Field, len(fields))
	for i, place := range places {
		l[i] = api.Field{Key: fields[place].Key, Val: arranged(fields[place].Val)}
	}
	return l
}

// compare holds arranged values against each other.
func compare(a, b api.Value) int {
	if order := cmp.Compare(a.Kind, b.Kind); order != 0 {
		return order
	}
	switch a.Kind {
	case api.Number:
		order, _ := dec.Cmp(a.Num, b.Num) // they may be: they are in range
		return order
	case api.Text:
		return utf.Cmp(a.Str, b.Str)
	case api.Array:
		return slices.CompareFunc(a.Arr, b.Arr, compare)
	case api.Object:
		return compareFields(a.Obj, b.Obj)
	}
	return 0
}

// compareFields holds the fields of two arranged objects against each other: all keys come ahead of what they have.
func compareFields(a, b []api.Field) int {
	if order := slices.CompareFunc(a, b, compareKeys); order != 0 {
		return order
	}
	return slices.CompareFunc(a, b, compareWhatTheyHave)
}

func compareKeys(f, g api.Field) int {
	return utf.Cmp(f.Key, g.Key)
}

func compareWhatTheyHave(f, g api.Field) int {
	return compare(f.Val, g.Val)
}
