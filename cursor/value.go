package cursor

import (
	"lorgnette/api"
	"lorgnette/dec"
	"lorgnette/quote"
)

// value makes the part a value.
func (p part) value() (api.Value, api.Errno) {
	v, err := api.Value{Kind: p.kind()}, api.OK
	switch v.Kind {
	case api.Number:
		v.Num, err = dec.Parse(string(p.bytes()))
	case api.Text:
		v.Str = p.standsFor()
	case api.Array:
		v.Arr, err = p.values()
	case api.Object:
		v.Obj, err = p.fields()
	}
	if err != api.OK {
		return api.Value{}, err
	}
	return v, api.OK
}

// standsFor is what a text in quotes stands for.
func (p part) standsFor() string {
	s, _, _ := quote.Read(p.bytes()) // a part: it is read
	return s
}

// values are those of an array's texts.
func (p part) values() ([]api.Value, api.Errno) {
	var l []api.Value
	for text := range p.texts {
		v, err := text.value()
		if err != api.OK {
			return nil, err
		}
		l = append(l, v)
	}
	return l, api.OK
}

// fields are those of an object's keys. Each entry is made a value, also where a later one takes its place: its numbers may be out of range.
func (p part) fields() ([]api.Field, api.Errno) {
	var l []api.Field
	places := map[string]int{}
	for text := range p.texts {
		v, err := text.value()
		if err != api.OK {
			return nil, err
		}
		key := text.key().standsFor()
		at, had := places[key]
		if !had {
			at = len(l)
			places[key] = at
			l = append(l, api.Field{Key: key})
		}
		l[at].Val = v
	}
	return l, api.OK
}
