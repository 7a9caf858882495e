package runes

import (
	"slices"
	"sort"

	"quoin/api"
)

// Cuts are the runes at which sets part.
func Cuts(l ...[]api.Range) ([]rune, api.Errno) {
	if e := checkAll(l...); e != api.OK {
		return nil, e
	}
	cuts := []rune{0}
	for _, s := range l {
		for _, x := range s {
			cuts = append(cuts, x.Lo)
			if x.Hi < api.MaxRune {
				cuts = append(cuts, x.Hi+1)
			}
		}
	}
	slices.Sort(cuts)
	cuts = slices.Compact(cuts)
	if len(cuts) > api.MaxRanges {
		return nil, api.ErrRanges
	}
	return cuts, api.OK
}

// Class is between which cuts a rune is.
func Class(cuts []rune, r rune) int {
	if len(cuts) == 0 {
		return 0
	}
	inner := cuts[1:]
	return sort.Search(len(inner), func(i int) bool { return inner[i] > r })
}
