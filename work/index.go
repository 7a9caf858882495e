package work

import (
	"quoin/api"
)

// Index numbers keys.
type Index[K comparable] struct {
	keys    []K
	numbers map[K]int
}

// NewIndex is a numbering of no keys.
func NewIndex[K comparable]() *Index[K] { return &Index[K]{} }

// At is a key's number, and whether it is new.
func (x *Index[K]) At(k K) (int, bool, api.Errno) {
	if x == nil {
		return 0, false, api.ErrNil
	}
	n, there, e := x.look(k)
	if e != api.OK {
		return 0, false, e
	}
	if there {
		return n, false, api.OK
	}
	if len(x.keys) == api.MaxNumber {
		return 0, false, api.ErrFull
	}
	return x.enter(k), true, api.OK
}

// Find is a key's number, if it has one.
func (x *Index[K]) Find(k K) (int, bool) {
	if x == nil {
		return 0, false
	}
	n, there, _ := x.look(k)
	return n, there
}

// Key is the key of a number.
func (x *Index[K]) Key(n int) (K, api.Errno) {
	var none K
	if x == nil {
		return none, api.ErrNil
	}
	if n < 0 || n >= len(x.keys) {
		return none, api.ErrNone
	}
	return x.keys[n], api.OK
}

// Len is how many keys there are.
func (x *Index[K]) Len() int {
	if x == nil {
		return 0
	}
	return len(x.keys)
}

// look is a key's number, and whether it has one; ErrArg, if it can be no key: an interface is comparable as a type, but a map panics at one that holds a list.
func (x *Index[K]) look(k K) (n int, there bool, e api.Errno) {
	defer func() {
		if recover() != nil {
			n, there, e = 0, false, api.ErrArg
		}
	}()
	n, there = x.numbers[k]
	return n, there, api.OK
}

// enter gives a key that has no number the next one.
func (x *Index[K]) enter(k K) int {
	if x.numbers == nil { // the zero one is a numbering of no keys, too
		x.numbers = map[K]int{}
	}
	n := len(x.keys)
	x.keys = append(x.keys, k)
	x.numbers[k] = n
	return n
}
