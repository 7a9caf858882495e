package items

import (
	"slices"

	"quoin/api"
)

// hasShape tells whether states are rows of items that may be, and Next has a state or none for each of them and each symbol.
func (g *grammar) hasShape(a api.Auto) bool {
	return g.haveRoom(a.States) && haveStates(a) && len(a.Next[0]) == g.symbols() &&
		!slices.ContainsFunc(a.States, func(state []api.Item) bool { return !g.haveItems(state) || !rises(state) })
}

// haveRoom tells whether there are states, each with items, and not too many of all.
func (g *grammar) haveRoom(states [][]api.Item) bool {
	if len(states) == 0 || len(states) > api.MaxStates {
		return false
	}
	count := 0
	for _, state := range states {
		if len(state) == 0 || len(state) > api.MaxItems {
			return false
		}
		count += len(state)
	}
	return count <= api.MaxAll
}

// rises tells whether items are in order, each once.
func rises(state []api.Item) bool {
	for n := 1; n < len(state); n++ {
		if compare(state[n-1], state[n]) >= 0 {
			return false
		}
	}
	return true
}

// spot is a production and a place in it: an item without its Look.
type spot struct{ prod, dot int }

// core are the spots of items, which are rising.
func core(l []api.Item) []spot {
	var spots []spot
	for _, i := range l {
		spots = append(spots, spot{i.Prod, i.Dot})
	}
	return slices.Compact(spots)
}

// leadsOn tells of an automaton that has the shape of one whether its states are closed, the first is the start's, and each leads where it goes on to.
func (c *closer) leadsOn(a api.Auto) bool {
	if !has(a.States[0], c.startItem()) {
		return false
	}
	var cores [][]spot
	for _, state := range a.States {
		if !c.isClosed(state) {
			return false
		}
		cores = append(cores, core(c.kernel(state)))
	}
	for s, state := range a.States {
		steps := c.steps(state)
		for symbol, to := range a.Next[s] {
			step := steps[symbol]
			if (to == nowhere) != (len(step) == 0) || to != nowhere && !fits(a.States[to], cores[to], step) {
				return false
			}
		}
	}
	return true
}

func (c *closer) isClosed(state []api.Item) bool {
	l, e := c.closure(state)
	return e == api.OK && len(l) == len(state)
}

// fits tells whether a closed state, which has that core, has items to which one goes on, and no other spots in its kernel.
func fits(state []api.Item, spots []spot, step []api.Item) bool {
	if !slices.Equal(spots, core(step)) {
		return false
	}
	for _, i := range step {
		if !has(state, i) {
			return false
		}
	}
	return true
}

func has(state []api.Item, i api.Item) bool {
	_, is := slices.BinarySearchFunc(state, i, compare)
	return is
}
