package dfa

import (
	"slices"

	"quoin/api"
)

// Apart is the least of the shortest texts that two do not accept alike.
func Apart(a, b api.Dfa) ([]rune, bool, api.Errno) {
	if Check(a) != api.OK || Check(b) != api.OK {
		return nil, false, api.ErrDfa
	}
	lows := slices.Concat(a.Lows, b.Lows)
	slices.Sort(lows)
	lows = slices.Compact(lows)
	stepA, stepB := stepBy(a, lows), stepBy(b, lows)
	p := newPairs(len(a.Rule), len(b.Rule))
	first := p.enter(0, 0)
	l := reach(first, len(lows), func(i, c int) int {
		return p.enter(stepA(p.met[i].a, c), stepB(p.met[i].b, c))
	})
	i := slices.IndexFunc(l, func(r reached) bool {
		return ruleOf(a, p.met[r.state].a) != ruleOf(b, p.met[r.state].b)
	})
	if i < 0 {
		return nil, false, api.OK
	}
	return textTo(l, i, lows), true, api.OK
}

// pair is a state of each of two automata, or nowhere.
type pair struct{ a, b int }

// pairs are those that one text leads to. A pair makes its two one: they are to accept alike.
type pairs struct {
	met   []pair
	many  int   // how many states the first automaton has
	above []int // of nowhere, the first one's states and the second one's: one that is one with it; the top leads to itself
}

// newPairs are none.
func newPairs(manyA, manyB int) *pairs {
	p := &pairs{many: manyA}
	for x := range 1 + manyA + manyB {
		p.above = append(p.above, x)
	}
	return p
}

// top is what all have in common that are one with x.
func (p *pairs) top(x int) int {
	for p.above[x] != x {
		p.above[x] = p.above[p.above[x]]
		x = p.above[x]
	}
	return x
}

// enter is a pair's number; -1, if its two are one already: a text that parts them parts one of the pairs that made them one, too, and these are reached by texts that are shorter, or less.
func (p *pairs) enter(a, b int) int {
	x, y := 1+a, 0
	if b >= 0 {
		y = 1 + p.many + b
	}
	x, y = p.top(x), p.top(y)
	if x == y {
		return -1
	}
	p.above[x] = y
	p.met = append(p.met, pair{a, b})
	return len(p.met) - 1
}
