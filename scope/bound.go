package scope

// bound is what is bound at a place of a tree: the names that one node binds there, and what is bound around it. Nil: nothing is.
type bound struct {
	names  map[string]struct{} // a pattern may bind very many
	around *bound
}

// bind is what is bound where some names are bound, too.
func (b *bound) bind(names ...string) *bound {
	if len(names) == 0 {
		return b
	}
	inner := bound{make(map[string]struct{}, len(names)), b}
	for _, name := range names {
		inner.names[name] = struct{}{}
	}
	return &inner
}

// has tells whether a name is bound.
func (b *bound) has(name string) bool {
	for ; b != nil; b = b.around {
		if _, ok := b.names[name]; ok {
			return true
		}
	}
	return false
}
