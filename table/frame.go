package table

import (
	"slices"

	"quoin/api"
	"quoin/short"
)

// frame is a table with as many rows of Goto as of Moves, and for how many kinds, rules and productions it is.
type frame struct {
	api.Table
	kinds, rules, prods int
}

// even is a table with what its first rows are for; false, if it has no state, no kind, or rows of unlike lengths.
func even(t api.Table) (frame, bool) {
	if len(t.Moves) == 0 || len(t.Goto) != len(t.Moves) {
		return frame{}, false
	}
	f := frame{Table: t, kinds: len(t.Moves[0]), rules: len(t.Goto[0])}
	return f, f.kinds > 0 && f.are(f.isWhole)
}

// isOf tells whether a number is one of so many.
func isOf(count, n int) bool { return 0 <= n && n < count }

// are tells whether checks are so of all states.
func (f frame) are(checks ...check) bool {
	return inspection{checks, among(f.states)}.wrong() < 0
}

func (f frame) states(yield func(state int) bool) {
	for s := range f.Moves {
		if !yield(s) {
			return
		}
	}
}

// mayBe tells whether a table may be; it may have any rows.
func (f frame) mayBe() bool {
	states := len(f.Moves)
	return 0 < states && states <= api.MaxStates && len(f.Goto) == states && f.are(f.isWhole, f.haveMoves, f.haveGotos)
}

func (f frame) isWhole(state int) bool {
	return len(f.Moves[state]) == f.kinds && len(f.Goto[state]) == f.rules
}

func (f frame) haveMoves(state int) bool {
	return !slices.ContainsFunc(f.Moves[state], func(m api.Move) bool { return !f.isMove(m) })
}

func (f frame) isMove(m api.Move) bool {
	switch m.Do {
	case api.MoveShift:
		return isOf(len(f.Moves), m.N)
	case api.MoveReduce:
		return isOf(f.prods, m.N)
	case api.MoveError, api.MoveAccept:
		return m.N == 0
	}
	return false
}

func (f frame) haveGotos(state int) bool {
	return !slices.ContainsFunc(f.Goto[state], func(to int) bool { return to != -1 && !isOf(len(f.Moves), to) })
}

// canBeBytes tells whether all numbers are among those that are written.
func (f frame) canBeBytes() bool { return f.are(f.haveShortMoves, f.haveShortGotos) }

func isShort(n int) bool { return 0 <= n && n <= short.Max }

func (f frame) haveShortMoves(state int) bool {
	return !slices.ContainsFunc(f.Moves[state], func(m api.Move) bool { return !isShort(m.Do) || !isShort(m.N) })
}

// A Goto is written as one more: from 0 on, too.
func (f frame) haveShortGotos(state int) bool {
	return !slices.ContainsFunc(f.Goto[state], func(to int) bool { return to < -1 || to >= short.Max })
}
