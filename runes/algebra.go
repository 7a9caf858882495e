package runes

import (
	"slices"

	"quoin/api"
)

// Union is what is in one of sets.
func Union(l ...[]api.Range) ([]api.Range, api.Errno) {
	if e := checkAll(l...); e != api.OK {
		return nil, e
	}
	return limited(merged(slices.Concat(l...)))
}

// Meet is what is in all of sets.
func Meet(l ...[]api.Range) ([]api.Range, api.Errno) {
	if e := checkAll(l...); e != api.OK {
		return nil, e
	}
	var missing []api.Range // runes that are not in one of them
	for _, s := range l {
		missing = append(missing, rest(s)...)
	}
	return limited(rest(merged(missing)))
}

// Minus is what is in the one and not in the other.
func Minus(a, b []api.Range) ([]api.Range, api.Errno) {
	if e := checkAll(a, b); e != api.OK {
		return nil, e
	}
	return limited(rest(merged(append(rest(a), b...))))
}

// Not is what is not in it.
func Not(s []api.Range) ([]api.Range, api.Errno) {
	if e := Check(s); e != api.OK {
		return nil, e
	}
	return limited(rest(s))
}

// merged is the one list of the runes of ranges, however long it is: what is made on the way to a set may be longer than a set.
func merged(l []api.Range) []api.Range {
	rising := slices.Clone(l)
	slices.SortFunc(rising, compareRanges)
	var s []api.Range
	for _, x := range rising {
		last := len(s) - 1
		if last >= 0 && x.Lo <= s[last].Hi+1 {
			s[last].Hi = max(s[last].Hi, x.Hi)
		} else {
			s = append(s, x)
		}
	}
	return s
}

// rest is the one list of the runes that are not in the one list s, however long it is.
func rest(s []api.Range) []api.Range {
	var l []api.Range
	from := rune(0)
	for _, x := range s {
		if from < x.Lo {
			l = append(l, api.Range{Lo: from, Hi: x.Lo - 1})
		}
		from = x.Hi + 1
	}
	if from <= api.MaxRune {
		l = append(l, api.Range{Lo: from, Hi: api.MaxRune})
	}
	return l
}

// limited is the one list s, if it is no longer than a set may be.
func limited(s []api.Range) ([]api.Range, api.Errno) {
	if len(s) > api.MaxRanges {
		return nil, api.ErrRanges
	}
	return s, api.OK
}
