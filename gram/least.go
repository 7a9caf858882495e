package gram

import (
	"slices"

	"quoin/api"
	"quoin/work"
)

// The lengths of shortest rows that are none, or are not counted out.
const (
	noRow   = -1
	tooLong = api.MaxToks + 1
)

// leasts are the lengths of the rules' shortest rows, of which the least is known first: nothing that comes later can shorten it.
func (g *grammar) leasts() []int {
	leasts := slices.Repeat([]int{noRow}, len(g.Rules))
	missing, sums := g.ruleCounts(), make([]int, len(g.Prods))
	todo := work.NewList()
	for prod, p := range g.Prods {
		sums[prod] = len(p.Right) - missing[prod]
		if missing[prod] == 0 {
			todo.Push(p.Left, sums[prod])
		}
	}
	for {
		rule, least, is := todo.Pop()
		if !is {
			return leasts
		}
		leasts[rule] = least
		for _, prod := range g.uses[rule] {
			sums[prod] += least
		}
		for _, prod := range g.readyBy([]int{rule}, missing) {
			if of := g.Prods[prod].Left; leasts[of] == noRow {
				todo.Push(of, min(sums[prod], tooLong))
			}
		}
	}
}

// shortest are the productions of which shortest rows are made.
func (g *grammar) shortest(leasts []int) []int {
	missing := g.ruleCounts()
	for prod, p := range g.Prods {
		if g.length(p.Right, leasts) != leasts[p.Left] {
			missing[prod] = -1 // it counts down, so it never comes to 0
		}
	}
	return g.rounds(missing)
}

// length is how many kinds a row makes, if each rule in it makes as few as it can. (Of rules that make none it means nothing; productions that have them are never found.)
func (g *grammar) length(row, leasts []int) int {
	rules := g.rulesOf(row)
	n := len(row) - len(rules)
	for _, rule := range rules {
		n += leasts[rule]
	}
	return n
}

// rowBy is what a rule makes by the productions that are told.
func (g *grammar) rowBy(rule int, by []int) []int {
	w := &writer{grammar: g, by: by, written: map[int]span{}}
	w.write(rule)
	return w.row
}

// writer makes a row. What a rule makes is made once, and taken from the row itself where it comes again: rules that make little, or nothing, may stand in it more often than could be gone through.
type writer struct {
	*grammar
	by      []int
	row     []int
	written map[int]span
}

// span is a piece of the row.
type span struct{ from, to int }

func (w *writer) write(rule int) {
	if s, is := w.written[rule]; is {
		w.row = append(w.row, w.row[s.from:s.to]...)
		return
	}
	from := len(w.row)
	for _, symbol := range w.Prods[w.by[rule]].Right {
		if within, is := w.rule(symbol); is {
			w.write(within)
		} else {
			w.row = append(w.row, symbol)
		}
	}
	w.written[rule] = span{from, len(w.row)}
}
