package dfa

import (
	"slices"
)

// blocks are states in blocks that are split finer and finer.
type blocks struct {
	states   []int // block by block
	place    []int // where each state stands there
	of       []int // the block of each state
	from, to []int // where each block stands
	marked   []int // how many states of each block, the first ones, are marked
	touched  []int // the blocks in which states are marked
}

// newBlocks has a block for each sort of states.
func newBlocks(sorts []int) *blocks {
	b := &blocks{place: make([]int, len(sorts)), of: slices.Clone(sorts)}
	for s := range sorts {
		b.states = append(b.states, s)
	}
	slices.SortStableFunc(b.states, func(s, t int) int { return sorts[s] - sorts[t] })
	for i, s := range b.states {
		b.place[s] = i
	}
	for from := 0; from < len(b.states); from = b.to[len(b.to)-1] {
		to := from
		for to < len(b.states) && sorts[b.states[to]] == len(b.from) {
			to++
		}
		b.add(from, to)
	}
	return b
}

// add makes a new block of states that stand side by side.
func (b *blocks) add(from, to int) {
	for _, s := range b.states[from:to] {
		b.of[s] = len(b.from)
	}
	b.from = append(b.from, from)
	b.to = append(b.to, to)
	b.marked = append(b.marked, 0)
}

// member is one of a block's states.
func (b *blocks) member(x int) int {
	return b.states[b.from[x]]
}

// mark marks a state that is not marked: it changes places with the first such one of its block.
func (b *blocks) mark(s int) {
	x := b.of[s]
	if b.marked[x] == 0 {
		b.touched = append(b.touched, x)
	}
	at, edge := b.place[s], b.from[x]+b.marked[x]
	other := b.states[edge]
	b.states[edge], b.states[at] = s, other
	b.place[s], b.place[other] = edge, at
	b.marked[x]++
}

// split parts, in each block, the states that are marked from those that are not. The fewer of them are the new block: so a state comes into a new one a few times at most, however many there are.
func (b *blocks) split() {
	for _, x := range b.touched {
		from, edge, to := b.from[x], b.from[x]+b.marked[x], b.to[x]
		b.marked[x] = 0
		switch {
		case edge == to: // all are marked
		case edge-from <= to-edge:
			b.from[x] = edge
			b.add(from, edge)
		default:
			b.to[x] = edge
			b.add(edge, to)
		}
	}
	b.touched = b.touched[:0]
}

// back tells which states lead to which.
type back struct {
	from   []int // where those that lead to a state begin
	states []int
}

// backBy turns steps round.
func backBy(many int, step func(s int) int) back {
	b := back{make([]int, many+1), make([]int, many)}
	for s := range many {
		b.from[step(s)+1]++
	}
	for s := range many {
		b.from[s+1] += b.from[s]
	}
	room := slices.Clone(b.from)
	for s := range many {
		t := step(s)
		b.states[room[t]] = s
		room[t]++
	}
	return b
}

// blocks are the states that accept alike, after Hopcroft: each block, new ones too, once parts those states that lead into it from those that do not. What is parted by a block, and by the lesser half of it, is parted by its other half, too.
func (m machine) blocks() *blocks {
	many := len(m.rule)
	b := newBlocks(refined(make([]int, many), m.rule))
	var backs []back
	for sort := range m.next[0] {
		backs = append(backs, backBy(many, func(s int) int { return m.next[s][sort] }))
	}
	for x := 0; x < len(b.from); x++ {
		members := slices.Clone(b.states[b.from[x]:b.to[x]]) // it may be split by itself
		for _, back := range backs {
			for _, s := range members {
				for _, t := range back.states[back.from[s]:back.from[s+1]] { // none leads to two, so none comes twice
					b.mark(t)
				}
			}
			b.split()
		}
	}
	return b
}
