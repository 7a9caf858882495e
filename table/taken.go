package table

import "math/bits"

// taken are the places that are not free: a bit each, so that many bases are tried at once.
type taken []uint64

func (t *taken) take(place int) {
	for len(*t) <= place/64 {
		*t = append(*t, 0)
	}
	(*t)[place/64] |= 1 << (place % 64)
}

// from are the 64 places from one on.
func (t taken) from(place int) uint64 {
	at, shift := place/64, place%64
	return t.word(at)>>shift | t.word(at+1)<<(64-shift)
}

// word is one of the list: behind all of them everything is free.
func (t taken) word(at int) uint64 {
	if at < len(t) {
		return t[at]
	}
	return 0
}

// leastBase is the least at which the places of all of a row's columns are free.
func (t taken) leastBase(columns []int) int {
	const all = 1<<64 - 1
	for base := 0; ; base += 64 {
		var not uint64 // of the bases from this one on: those at which something is taken
		for _, column := range columns {
			not |= t.from(base + column)
			if not == all {
				break
			}
		}
		if not != all {
			return base + bits.TrailingZeros64(^not)
		}
	}
}
