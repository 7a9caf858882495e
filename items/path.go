package items

import (
	"slices"

	"quoin/api"
)

// haveStates tells whether there are states, and rows of one length tell where each of them goes.
func haveStates(a api.Auto) bool {
	if len(a.States) == 0 || len(a.Next) != len(a.States) {
		return false
	}
	for _, row := range a.Next {
		if len(row) != len(a.Next[0]) || slices.ContainsFunc(row, func(to int) bool { return to < nowhere || to >= len(a.States) }) {
			return false
		}
	}
	return true
}

// way is how a state was reached first: from another one, by a symbol.
type way struct {
	isThere      bool
	from, symbol int
}

// path is the shortest row of symbols that leads to a state, of these the least; ErrNone. (As states are gone on from in the order in which they were reached, and by symbols in theirs, the first row that reaches a state is the one.)
func path(next [][]int, state int) ([]int, api.Errno) {
	ways := make([]way, len(next))
	ways[0].isThere = true
	reached := []int{0}
	for at := 0; at < len(reached) && !ways[state].isThere; at++ { // there come more and more of them
		from := reached[at]
		for symbol, to := range next[from] {
			if to != nowhere && !ways[to].isThere {
				ways[to] = way{true, from, symbol}
				reached = append(reached, to)
			}
		}
	}
	if !ways[state].isThere {
		return nil, api.ErrNone
	}
	return back(ways, state), api.OK
}

// back is the row by which a state was reached.
func back(ways []way, state int) []int {
	var row []int
	for state != 0 {
		row = append(row, ways[state].symbol)
		state = ways[state].from
	}
	slices.Reverse(row)
	return row
}
