package items

import (
	"slices"

	"quoin/api"
	"quoin/states"
)

// hasShape tells whether states are rows of items that may be, and Next has a state or none for each of them and each symbol.
func hasShape(g *states.Grammar, a api.Auto) bool {
	return haveRoom(a.States) && haveStates(a) && len(a.Next[0]) == g.Symbols() &&
		!slices.ContainsFunc(a.States, func(state []api.Item) bool { return !g.HaveItems(state) || !rises(state) })
}

// haveRoom tells whether there are states, each with items, and not too many of all.
func haveRoom(all [][]api.Item) bool {
	if len(all) == 0 || len(all) > api.MaxStates {
		return false
	}
	count := 0
	for _, state := range all {
		if len(state) == 0 || len(state) > api.MaxItems {
			return false
		}
		count += len(state)
	}
	return count <= api.MaxAll
}

// rises tells whether items are in order, each once.
func rises(state []api.Item) bool {
	for n := 1; n < len(state); n++ {
		if states.Compare(state[n-1], state[n]) >= 0 {
			return false
		}
	}
	return true
}

// leadsOn tells of an automaton that has the shape of one whether its states are closed, the first is the start's, and each leads where it goes on to.
func leadsOn(c *states.Closer, a api.Auto) bool {
	if !has(a.States[0], c.StartItem()) {
		return false
	}
	var cores [][]states.Spot
	for _, state := range a.States {
		if !isClosed(c, state) {
			return false
		}
		cores = append(cores, states.Core(c.Kernel(state)))
	}
	for s, state := range a.States {
		kernels := steps(c.Grammar, state)
		for symbol, to := range a.Next[s] {
			step := kernels[symbol]
			if (to == nowhere) != (len(step) == 0) || to != nowhere && !fits(a.States[to], cores[to], step) {
				return false
			}
		}
	}
	return true
}

func isClosed(c *states.Closer, state []api.Item) bool {
	l, e := c.Closure(state)
	return e == api.OK && len(l) == len(state)
}

// fits tells whether a closed state, which has that core, has items to which one goes on, and no other spots in its kernel.
func fits(state []api.Item, spots []states.Spot, step []api.Item) bool {
	if !slices.Equal(spots, states.Core(step)) {
		return false
	}
	for _, i := range step {
		if !has(state, i) {
			return false
		}
	}
	return true
}

func has(state []api.Item, i api.Item) bool {
	_, is := slices.BinarySearchFunc(state, i, states.Compare)
	return is
}
