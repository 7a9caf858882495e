package derive

import (
	"iter"
	"math/bits"
	"slices"
)

// set is numbers from 0 on: a cell takes many ends at one step, 64 of them at a time.
type set []block // rising, none of them empty

// block is those of the numbers from 64 * at on, 64 of them, whose bits are set.
type block struct {
	at   int
	bits uint64
}

// blockOf is the block of one number.
func blockOf(n int) block { return block{n >> 6, 1 << (n & 63)} }

// all are a block's numbers, rising.
func (b block) all() iter.Seq[int] {
	return func(yield func(int) bool) {
		for left := b.bits; left != 0; left &= left - 1 {
			if !yield(b.at<<6 + bits.TrailingZeros64(left)) {
				return
			}
		}
	}
}

// find is where the block stands, or would stand.
func (s set) find(at int) (int, bool) {
	low, high := 0, len(s)
	if high == 0 || s[high-1].at < at { // most numbers come in their order
		return high, false
	}
	for low < high {
		if mid := (low + high) / 2; s[mid].at < at {
			low = mid + 1
		} else {
			high = mid
		}
	}
	return low, s[low].at == at
}

// bitsAt are the bits of a block.
func (s set) bitsAt(at int) uint64 {
	if i, is := s.find(at); is {
		return s[i].bits
	}
	return 0
}

func (s set) has(n int) bool {
	b := blockOf(n)
	return s.bitsAt(b.at)&b.bits != 0
}

// lay adds a block's numbers.
func (s *set) lay(b block) {
	if b.bits == 0 {
		return
	}
	if i, is := s.find(b.at); is {
		(*s)[i].bits |= b.bits
	} else {
		*s = slices.Insert(*s, i, b)
	}
}

func (s *set) add(n int) { s.lay(blockOf(n)) }

func (s *set) join(t set) {
	for _, b := range t {
		s.lay(b)
	}
}

// meet are the numbers that both have.
func (s set) meet(t set) set {
	if len(t) < len(s) {
		s, t = t, s
	}
	var both set
	for _, b := range s {
		both.lay(block{b.at, b.bits & t.bitsAt(b.at)})
	}
	return both
}

// without are the numbers that t has not.
func (s set) without(t set) set {
	var left set
	for _, b := range s {
		left.lay(block{b.at, b.bits &^ t.bitsAt(b.at)})
	}
	return left
}

// all are the numbers, rising.
func (s set) all() iter.Seq[int] {
	return func(yield func(int) bool) {
		for _, b := range s {
			for n := range b.all() {
				if !yield(n) {
					return
				}
			}
		}
	}
}

// last is the greatest number of a set that is not empty.
func (s set) last() int {
	b := s[len(s)-1]
	return b.at<<6 + 63 - bits.LeadingZeros64(b.bits)
}
