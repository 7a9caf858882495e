package items

import (
	"maps"
	"slices"

	"quoin/api"
	"quoin/states"
)

// builder makes an automaton.
type builder struct {
	*states.Closer
	api.Auto
	met   map[string]int // the states' numbers by their kernels: these alone tell states apart, as all else is their closure
	count int            // how many items all states have
}

func newBuilder(c *states.Closer) *builder { return &builder{Closer: c, met: map[string]int{}} }

// build makes all states, as they are met; ErrFull, ErrStates.
func (b *builder) build() api.Errno {
	if _, e := b.number([]api.Item{b.StartItem()}); e != api.OK {
		return e
	}
	for s := 0; s < len(b.States); s++ { // there come more and more of them
		next, e := b.goOn(b.States[s])
		if e != api.OK {
			return e
		}
		b.Next = append(b.Next, next)
	}
	return api.OK
}

// goOn is where a state goes by each symbol.
func (b *builder) goOn(state []api.Item) ([]int, api.Errno) {
	next := slices.Repeat([]int{nowhere}, b.Symbols())
	kernels := steps(b.Grammar, state)
	for _, symbol := range slices.Sorted(maps.Keys(kernels)) {
		n, e := b.number(kernels[symbol])
		if e != api.OK {
			return nil, e
		}
		next[symbol] = n
	}
	return next, api.OK
}

const nowhere = -1

// number is the number of the state with a kernel.
func (b *builder) number(kernel []api.Item) (int, api.Errno) {
	text := textOf(kernel)
	if n, is := b.met[text]; is {
		return n, api.OK
	}
	state, e := b.Closure(kernel)
	if e != api.OK {
		return 0, e
	}
	b.count += len(state)
	if b.count > api.MaxAll {
		return 0, api.ErrFull
	}
	n := len(b.States)
	if n == api.MaxStates {
		return 0, api.ErrStates
	}
	b.met[text] = n
	b.States = append(b.States, state)
	return n, api.OK
}

// textOf is a text that no other items have: two bytes of each number, all of which are small enough.
func textOf(l []api.Item) string {
	text := make([]byte, 0, 6*len(l))
	for _, i := range l {
		for _, n := range [...]int{i.Prod, i.Dot, i.Look} {
			text = append(text, byte(n>>8), byte(n))
		}
	}
	return string(text)
}
