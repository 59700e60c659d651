package code

import (
	"cmp"
	"slices"

	"vellum/api"
)

const (
	// No tag is as great as behindAll: a key and it stand behind all keys that begin with that key's values.
	behindAll = "\xFF"
	// A key and nextByte is the least key behind it.
	nextByte = "\x00"
)

// Begins is the range of all keys that begin with these values.
func Begins(l []api.Value) (api.Range, api.Errno) {
	key, err := Encode(l)
	if err != api.OK {
		return api.Range{}, err
	}
	return api.Range{Lo: key, Hi: key + behindAll}, api.OK
}

// From is the range of all keys from some values on, those that begin with them in it, or not.
func From(l []api.Value, in bool) (api.Range, api.Errno) {
	key, err := Encode(l)
	if err != api.OK {
		return api.Range{}, err
	}
	if !in {
		key += behindAll
	}
	return api.Range{Lo: key, Open: true}, api.OK
}

// To is the range of all keys up to some values, those that begin with them in it, or not.
func To(l []api.Value, in bool) (api.Range, api.Errno) {
	key, err := Encode(l)
	if err != api.OK {
		return api.Range{}, err
	}
	if in {
		key += behindAll
	}
	return api.Range{Hi: key}, api.OK
}

// Point is the range of one key.
func Point(key string) api.Range {
	return api.Range{Lo: key, Hi: key + nextByte}
}

// Has tells whether a key is in a range.
func Has(r api.Range, key string) bool {
	return key >= r.Lo && (r.Open || key < r.Hi)
}

// Empty tells whether no key can be in a range.
func Empty(r api.Range) bool {
	return !Has(r, r.Lo)
}

// Both is the range of all keys that are in two.
func Both(a, b api.Range) api.Range {
	both := api.Range{Lo: max(a.Lo, b.Lo)}
	switch {
	case a.Open && b.Open:
		both.Open = true
	case a.Open:
		both.Hi = b.Hi
	case b.Open:
		both.Hi = a.Hi
	default:
		both.Hi = min(a.Hi, b.Hi)
	}
	if Empty(both) {
		return api.Range{}
	}
	return both
}

// Meet tells whether some key can be in both.
func Meet(a, b api.Range) bool {
	return !Empty(Both(a, b))
}

// Union is ranges that have the same keys as some, and do not touch one another, in order.
func Union(l []api.Range) []api.Range {
	var union []api.Range
	for _, r := range sorted(l) {
		last := len(union) - 1
		if last >= 0 && touches(union[last], r) {
			union[last] = joined(union[last], r)
			continue
		}
		union = append(union, plain(r))
	}
	return union
}

// sorted is those that are not empty, by Lo.
func sorted(l []api.Range) []api.Range {
	rising := slices.DeleteFunc(slices.Clone(l), Empty)
	slices.SortFunc(rising, func(a, b api.Range) int { return cmp.Compare(a.Lo, b.Lo) })
	return rising
}

// touches tells whether no key is between a and b, which begins not ahead of it.
func touches(a, b api.Range) bool {
	return a.Open || b.Lo <= a.Hi
}

func joined(a, b api.Range) api.Range {
	return plain(api.Range{Lo: a.Lo, Hi: max(a.Hi, b.Hi), Open: a.Open || b.Open})
}

// plain is a range without the Hi that does not matter.
func plain(r api.Range) api.Range {
	if r.Open {
		r.Hi = ""
	}
	return r
}
