package place

import (
	"lorgnette/api"
	"lorgnette/clone"
	"lorgnette/dec"
)

// pathsTo are the paths that are listed, the one that leads to a value, and those that lead on from it.
func pathsTo(v api.Value, path []api.Value, listed [][]api.Value) [][]api.Value {
	return pathsFrom(v, path, append(listed, clone.Items(path))) // a clone: what has room behind the path is written over
}

// pathsFrom are the paths that are listed, and those that lead on from a value, to which a path leads.
func pathsFrom(v api.Value, path []api.Value, listed [][]api.Value) [][]api.Value {
	for i, item := range v.Arr {
		listed = pathsTo(item, append(path, api.Value{Kind: api.Number, Num: dec.Of(i)}), listed)
	}
	for _, field := range v.Obj {
		listed = pathsTo(field.Val, append(path, api.Value{Kind: api.Text, Str: field.Key}), listed)
	}
	return listed
}
