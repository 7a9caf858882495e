package work

import (
	"cmp"
	"math/bits"
	"slices"

	"quoin/api"
)

// Set is an ordered set of numbers.
type Set struct {
	blocks []block // rising, none of them empty: so that like sets have like blocks
	size   int     // how many numbers they have, together
}

// block is those of the numbers from 64 * at on, 64 of them, whose bits are set.
type block struct {
	at   int
	bits uint64
}

// blockOf is the block of one number.
func blockOf(n int) block { return block{n >> 6, 1 << (n & 63)} }

// NewSet is a set of numbers.
func NewSet(l ...int) (*Set, api.Errno) {
	s := &Set{}
	if _, e := s.Add(l...); e != api.OK {
		return nil, e
	}
	return s, api.OK
}

// Add lays numbers in: how many were not in it.
func (s *Set) Add(l ...int) (int, api.Errno) {
	if s == nil {
		return 0, api.ErrNil
	}
	if !areNumbers(l) {
		return 0, api.ErrArg
	}
	added := 0
	for _, n := range l {
		added += s.lay(blockOf(n))
	}
	return added, api.OK
}

// Drop takes numbers out: how many were in it.
func (s *Set) Drop(l ...int) int {
	if s == nil {
		return 0
	}
	dropped := 0
	for _, n := range l {
		dropped += s.take(blockOf(n))
	}
	return dropped
}

// Has tells whether a number is in it.
func (s *Set) Has(n int) bool {
	b := blockOf(n)
	return s.bitsAt(b.at)&b.bits != 0
}

// Len is how many there are.
func (s *Set) Len() int {
	if s == nil {
		return 0
	}
	return s.size
}

// All are its numbers, rising.
func (s *Set) All() []int {
	if s == nil {
		return nil
	}
	l := make([]int, 0, s.size)
	for _, b := range s.blocks {
		for rest := b.bits; rest != 0; rest &= rest - 1 {
			l = append(l, b.at<<6+bits.TrailingZeros64(rest))
		}
	}
	return l
}

// Join lays another set's numbers in: how many were not in it.
func (s *Set) Join(t *Set) int {
	if s == nil || t == nil {
		return 0
	}
	added := 0
	for _, b := range t.blocks {
		added += s.lay(b)
	}
	return added
}

// Meets tells whether both have a number in common.
func (s *Set) Meets(t *Set) bool {
	if s == nil {
		return false
	}
	for _, b := range s.blocks {
		if b.bits&t.bitsAt(b.at) != 0 {
			return true
		}
	}
	return false
}

// Within tells whether another set has all of its numbers.
func (s *Set) Within(t *Set) bool {
	if s == nil {
		return false
	}
	for _, b := range s.blocks {
		if b.bits&^t.bitsAt(b.at) != 0 {
			return false
		}
	}
	return true
}

// Same tells whether both have the same numbers.
func (s *Set) Same(t *Set) bool {
	return s != nil && s.size == t.Len() && s.Within(t)
}

// Key is a text that like sets alone have in common.
func (s *Set) Key() string {
	if s == nil {
		return ""
	}
	text := make([]byte, 0, 10*len(s.blocks))
	for _, b := range s.blocks {
		text = append(text, byte(b.at>>8), byte(b.at)) // two bytes do: at is below MaxNumber / 64
		for shift := 0; shift < 64; shift += 8 {
			text = append(text, byte(b.bits>>shift))
		}
	}
	return string(text)
}

// Copy is a set of the same numbers.
func (s *Set) Copy() *Set {
	if s == nil {
		return nil
	}
	return &Set{slices.Clone(s.blocks), s.size}
}

// find is where the block of that place stands or would stand, and whether it is there.
func (s *Set) find(at int) (int, bool) {
	return slices.BinarySearchFunc(s.blocks, at, func(b block, at int) int { return cmp.Compare(b.at, at) })
}

// bitsAt are the bits of the block of that place; a nil set has none.
func (s *Set) bitsAt(at int) uint64 {
	if s == nil {
		return 0
	}
	i, there := s.find(at)
	if !there {
		return 0
	}
	return s.blocks[i].bits
}

// lay lays a block's numbers in: how many were not in it.
func (s *Set) lay(b block) int {
	i, there := s.find(b.at)
	if !there {
		s.blocks = slices.Insert(s.blocks, i, block{at: b.at})
	}
	added := bits.OnesCount64(b.bits &^ s.blocks[i].bits)
	s.blocks[i].bits |= b.bits
	s.size += added
	return added
}

// take takes a block's numbers out: how many were in it.
func (s *Set) take(b block) int {
	i, there := s.find(b.at)
	if !there {
		return 0
	}
	dropped := bits.OnesCount64(b.bits & s.blocks[i].bits)
	s.blocks[i].bits &^= b.bits
	if s.blocks[i].bits == 0 {
		s.blocks = slices.Delete(s.blocks, i, i+1)
	}
	s.size -= dropped
	return dropped
}
