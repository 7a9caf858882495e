package solve

import (
	"slices"

	"quoin/api"
)

// solver is a grammar and an automaton that is right for it.
type solver struct {
	grammar
	api.Auto
}

// cells are what can be done in a state at each kind.
func (s solver) cells(state int) []cell {
	l := make([]cell, len(s.Kinds))
	for kind := range l {
		l[kind].shift = s.Next[state][kind]
	}
	for _, i := range s.States[state] { // they rise, and so do the productions at each kind
		if s.reduces(i) {
			l[i.Look].prods = append(l[i.Look].prods, i.Prod)
		}
	}
	return l
}

// reduces tells whether by an item its production is reduced at its Look.
func (s solver) reduces(i api.Item) bool {
	if s.isStart(i.Prod) { // it may have other Looks, but nothing is accepted ahead of the end
		return i.Dot == 1 && i.Look == api.KindEnd
	}
	return i.Dot == len(s.Prods[i.Prod].Right)
}

// solve is the table, and all clashes.
func (s solver) solve() (api.Table, []api.Clash) {
	var t api.Table
	var clashes []api.Clash
	for state, next := range s.Next {
		row := make([]api.Move, len(s.Kinds))
		for kind, c := range s.cells(state) {
			row[kind] = s.won(kind, c)
			if c.isClash() {
				clashes = append(clashes, api.Clash{State: state, Kind: kind, Shift: c.shift, Prods: c.prods, Won: row[kind], Settled: s.isSettled(kind, c)})
			}
		}
		t.Moves = append(t.Moves, row)
		t.Goto = append(t.Goto, slices.Clone(next[len(s.Kinds):]))
	}
	return t, clashes
}
