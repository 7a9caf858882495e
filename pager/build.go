package pager

import (
	"cmp"
	"maps"
	"slices"

	"quoin/api"
	"quoin/states"
	"quoin/work"
)

// state is one of those that are made: its kernel, what else its closure had as it was made last, and where it goes on to. Both are not there before it was done first.
type state struct {
	kernel
	closed *states.Closing
	next   []int
	size   int // how many items its closure had
}

// heap is where states wait that are to be done: the one with the least number is the first, and none is there twice.
type heap interface {
	Push(n, weight int) (bool, api.Errno)
	Pop() (n, weight int, ok bool)
}

// builder makes a merged automaton.
type builder struct {
	*states.Closer
	made    []*state
	waiting heap
	ofCore  map[string][]int // the states' numbers by their cores, rising
	total   int              // how many items all closures have
}

func newBuilder(c *states.Closer) *builder {
	return &builder{Closer: c, waiting: work.NewList(), ofCore: map[string][]int{}}
}

// build makes all states, and does them till nothing is to do; ErrFull, ErrStates.
func (b *builder) build() api.Errno {
	start := newKernel([]api.Item{b.StartItem()})
	e := b.add(start, textOf(start.core))
	for e == api.OK {
		n, _, is := b.waiting.Pop()
		if !is {
			break
		}
		e = b.do(b.made[n])
	}
	return e
}

// add makes a state, which is to do; ErrStates.
func (b *builder) add(k kernel, core string) api.Errno {
	n := len(b.made)
	if n == api.MaxStates {
		return api.ErrStates
	}
	b.made = append(b.made, &state{kernel: k.copied()})
	b.ofCore[core] = append(b.ofCore[core], n)
	b.waiting.Push(n, 0)
	return api.OK
}

// do closes a state and lets it go on by each symbol; ErrFull, ErrStates.
func (b *builder) do(s *state) api.Errno {
	if e := b.close(s); e != api.OK {
		return e
	}
	kernels := b.kernels(s)
	if s.next == nil {
		s.next = slices.Repeat([]int{nowhere}, b.Symbols())
	}
	for _, symbol := range slices.Sorted(maps.Keys(kernels)) {
		if e := b.goOn(s, symbol, kernels[symbol]); e != api.OK {
			return e
		}
	}
	return api.OK
}

const nowhere = -1

// close makes a state's closure; ErrFull.
func (b *builder) close(s *state) api.Errno {
	s.closed = b.Begin()
	for n, at := range s.core {
		s.closed.Lay(at, s.looks[n])
	}
	if !s.closed.Close() {
		return api.ErrFull
	}
	b.total -= s.size
	s.size = s.closed.Count() + s.count()
	b.total += s.size
	if s.size > api.MaxItems || b.total > api.MaxAll {
		return api.ErrFull
	}
	return api.OK
}

// step is a spot to which a state goes on, with its Looks.
type step struct {
	states.Spot
	looks *work.Set
}

// kernels are those of what a state goes on to, by the symbols. They have the Looks that the state has now, even if it gets more as it is gone on from.
func (b *builder) kernels(s *state) map[int]kernel {
	steps := map[int][]step{}
	lay := func(at states.Spot, looks *work.Set) {
		if right := b.Right(at.Prod); at.Dot < len(right) && looks.Len() > 0 {
			symbol := right[at.Dot]
			at.Dot++
			steps[symbol] = append(steps[symbol], step{at, looks})
		}
	}
	now := s.copied()
	for n, at := range now.core {
		lay(at, now.looks[n])
	}
	for at, looks := range s.closed.Ahead {
		lay(at, looks)
	}
	kernels := map[int]kernel{}
	for symbol, l := range steps {
		kernels[symbol] = inOrder(l)
	}
	return kernels
}

// inOrder is the kernel of steps, which are in any order.
func inOrder(l []step) kernel {
	slices.SortFunc(l, func(a, b step) int { return cmp.Or(cmp.Compare(a.Prod, b.Prod), cmp.Compare(a.Dot, b.Dot)) })
	var k kernel
	for _, one := range l {
		k.core = append(k.core, one.Spot)
		k.looks = append(k.looks, one.looks)
	}
	return k
}

// goOn lets a state go on by a symbol to one that has a kernel; ErrStates.
func (b *builder) goOn(s *state, symbol int, k kernel) api.Errno {
	until := s.next[symbol]
	if until != nowhere && k.isWithin(b.made[until].kernel) {
		return api.OK
	}
	core := textOf(k.core)
	numbers := b.ofCore[core]
	if until != nowhere {
		numbers = append([]int{until}, numbers...)
	}
	n, is := first(merge{b, k}.into, numbers...)
	if !is {
		n = len(b.made)
		if e := b.add(k, core); e != api.OK {
			return e
		}
	}
	s.next[symbol] = n
	return api.OK
}

// first is the first of states into which a kernel can be put.
func first(put func(n int) bool, numbers ...int) (int, bool) {
	for _, n := range numbers {
		if put(n) {
			return n, true
		}
	}
	return nowhere, false
}

// merge is a kernel that is to be put into a state of the same core.
type merge struct {
	*builder
	kernel
}

// into puts it into a state, if both are weakly compatible: whether they are. If the state gets more by that, it is to do.
func (m merge) into(n int) bool {
	to := m.made[n].kernel
	if !to.isWeak(m.kernel) {
		return false
	}
	if to.join(m.kernel) > 0 {
		m.waiting.Push(n, 0)
	}
	return true
}

// auto is the automaton of the states that are reached.
func (b *builder) auto() api.Auto {
	var next [][]int
	for _, s := range b.made {
		next = append(next, s.next)
	}
	var a api.Auto
	order := inOrderMet(next)
	for _, n := range order.met {
		s := b.made[n]
		a.States = append(a.States, s.closed.With(s.items()))
		a.Next = append(a.Next, order.renamed(s.next))
	}
	return a
}
