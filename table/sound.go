package table

import (
	"slices"

	"quoin/api"
)

// Symbols that stand for none of a grammar's: that of a state to which no symbol leads, and that of one to which several do.
const (
	noSymbol   = -1
	anySymbols = -2
)

// ways are those of a table that may be for a grammar.
type ways struct {
	grammar api.Plain
	table   api.Table
	isMet   []bool  // of each state whether a way leads to it
	last    []int   // of each state that is met the symbol with which its ways end, but for the one without symbols
	ahead   [][]int // of each state that is met the states ahead of it; each once, if it has one last symbol
}

func newWays(g api.Plain, t api.Table) *ways {
	states := len(t.Moves)
	w := &ways{g, t, make([]bool, states), slices.Repeat([]int{noSymbol}, states), make([][]int, states)}
	w.isMet[0] = true
	for todo := []int{0}; len(todo) > 0; {
		s := todo[len(todo)-1]
		todo = todo[:len(todo)-1]
		for symbol, to := range w.next(s) {
			if !w.isMet[to] {
				w.isMet[to] = true
				todo = append(todo, to)
			}
			w.lead(s, symbol, to)
		}
	}
	return w
}

// next tells the symbols by which a state leads on, and where.
func (w *ways) next(state int) func(yield func(symbol, to int) bool) {
	return func(yield func(symbol, to int) bool) {
		for kind, m := range w.table.Moves[state] {
			if m.Do == api.MoveShift && !yield(kind, m.N) {
				return
			}
		}
		for rule, to := range w.table.Goto[state] {
			if to != -1 && !yield(len(w.grammar.Kinds)+rule, to) {
				return
			}
		}
	}
}

// lead notes that a state leads to another by a symbol.
func (w *ways) lead(state, symbol, to int) {
	if w.last[to] == noSymbol {
		w.last[to] = symbol
	} else if w.last[to] != symbol {
		w.last[to] = anySymbols
	}
	w.ahead[to] = append(w.ahead[to], state)
}

// met tells the states to which ways lead.
func (w *ways) met(yield func(state int) bool) {
	for s, is := range w.isMet {
		if is && !yield(s) {
			return
		}
	}
}

// unsound is the least state that is met of which something is not so; -1, if there is none.
func (w *ways) unsound() int {
	return inspection{[]check{w.canReduce, w.canAccept}, among(w.met)}.wrong()
}

// canReduce tells whether behind all ways to a state there is what it reduces.
func (w *ways) canReduce(state int) bool {
	var prods []int
	for _, m := range w.table.Moves[state] {
		if m.Do == api.MoveReduce {
			prods = append(prods, m.N)
		}
	}
	slices.Sort(prods)
	return !slices.ContainsFunc(slices.Compact(prods), func(prod int) bool { return !w.canReduceBy(state, prod) })
}

func (w *ways) canReduceBy(state, prod int) bool {
	p := w.grammar.Prods[prod]
	from, is := w.behind(state, p.Right)
	return is && !slices.ContainsFunc(from, func(s int) bool { return w.table.Goto[s][p.Left] == -1 })
}

// behind are the states that stand ahead of a row on the ways to a state; false, if not all of them end with that row.
func (w *ways) behind(state int, row []int) ([]int, bool) {
	l := []int{state}
	for _, symbol := range slices.Backward(row) {
		var from []int // each once: a state leads to one alone by a symbol
		for _, s := range l {
			if s == 0 || w.last[s] != symbol { // to 0 there is a way without symbols
				return nil, false
			}
			from = append(from, w.ahead[s]...)
		}
		l = from
	}
	return l, true
}

// canAccept tells whether a state accepts at the end alone, and has the start alone behind it.
func (w *ways) canAccept(state int) bool {
	accepts := columns(w.table.Moves[state], func(m api.Move) bool { return m.Do == api.MoveAccept })
	if len(accepts) == 0 {
		return true
	}
	from, is := w.behind(state, []int{len(w.grammar.Kinds) + w.grammar.Start})
	return is && slices.Equal(accepts, []int{api.KindEnd}) && slices.Equal(from, []int{0}) && w.last[0] == noSymbol
}
