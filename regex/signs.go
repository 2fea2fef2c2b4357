package regex

import "strings"

// look tells whether a sign is one that is looked for.
type look func(sign int) bool

// only is one sign alone.
func only(one rune) look {
	return func(sign int) bool { return sign == int(one) }
}

// oneOf are some signs.
func oneOf(some string) look {
	return func(sign int) bool { return strings.ContainsRune(some, rune(sign)) }
}

// noneOf are all signs but some.
func noneOf(some string) look {
	listed := oneOf(some)
	return func(sign int) bool { return !listed(sign) }
}

// fromTo are the signs from one to another one.
func fromTo(from, to rune) look {
	return func(sign int) bool { return int(from) <= sign && sign <= int(to) }
}

// or are the signs that either one looks for.
func (l look) or(other look) look {
	return func(sign int) bool { return l(sign) || other(sign) }
}

// but are the signs that another one doesn't look for.
func (l look) but(other look) look {
	return func(sign int) bool { return l(sign) && !other(sign) }
}

func digit() look {
	return fromTo('0', '9')
}

func capital() look {
	return fromTo('A', 'Z')
}

func letter() look {
	return fromTo('a', 'z').or(capital())
}

// mark is a sign that stands for itself behind a backslash.
func mark() look {
	return fromTo('!', '~').but(letter()).but(digit())
}
