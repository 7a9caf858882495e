package gram

import (
	"slices"

	"quoin/api"
	"quoin/work"
)

// beginnings is a grammar of which is known with which kinds its rules begin, and which make the empty row.
type beginnings struct {
	*grammar
	nullable []bool
	first    []*work.Set
}

func newBeginnings(g *grammar) *beginnings {
	b := &beginnings{grammar: g, nullable: g.nullableRules(), first: newSets(len(g.Rules))}
	w := make(ways, len(g.Rules))
	for _, p := range g.Prods {
		for _, symbol := range p.Right {
			rule, is := g.rule(symbol)
			if !is {
				b.first[p.Left].Add(symbol)
				break
			}
			w[p.Left] = append(w[p.Left], rule)
			if !b.nullable[rule] {
				break
			}
		}
	}
	w.gather(b.first)
	return b
}

// of are the kinds with which a row of symbols begins, and whether it makes the empty one.
func (b *beginnings) of(row []int) (*work.Set, bool) {
	set := newSet()
	for _, symbol := range row {
		rule, is := b.rule(symbol)
		if !is {
			set.Add(symbol)
			return set, false
		}
		set.Join(b.first[rule])
		if !b.nullable[rule] {
			return set, false
		}
	}
	return set, true
}

// follow are the kinds that follow each rule.
func (b *beginnings) follow(reached []bool) []*work.Set {
	sets := newSets(len(b.Rules))
	sets[b.Start].Add(api.KindEnd)
	w := make(ways, len(b.Rules))
	for _, p := range b.Prods {
		if reached[p.Left] {
			b.followWithin(p, sets, w)
		}
	}
	w.gather(sets)
	return sets
}

// followWithin adds what follows the rules of a production: with what the symbols behind them begin, and, where these make the empty row, what follows the production's own.
func (b *beginnings) followWithin(p api.Prod, sets []*work.Set, w ways) {
	behind, isEmpty := newSet(), true
	for _, symbol := range slices.Backward(p.Right) {
		rule, is := b.rule(symbol)
		if is {
			sets[rule].Join(behind)
		}
		if is && isEmpty {
			w[rule] = append(w[rule], p.Left)
		}
		if !is || !b.nullable[rule] {
			behind, isEmpty = newSet(), false
		}
		if is {
			behind.Join(b.first[rule])
		} else {
			behind.Add(symbol)
		}
	}
}

// cyclic are the rules that make themselves alone.
func (b *beginnings) cyclic() []bool {
	w := make(ways, len(b.Rules))
	for _, p := range b.Prods {
		w[p.Left] = append(w[p.Left], b.alone(p.Right)...)
	}
	return w.toThemselves()
}

// alone are the rules of a row that can stand alone: all other symbols make the empty row.
func (b *beginnings) alone(row []int) []int {
	var firm []int // the symbols that can't go
	for _, symbol := range row {
		if rule, is := b.rule(symbol); !is || !b.nullable[rule] {
			firm = append(firm, symbol)
		}
	}
	switch len(firm) {
	case 0:
		return b.rulesOf(row)
	case 1:
		return b.rulesOf(firm)
	}
	return nil
}

func newSet() *work.Set {
	s, _ := work.NewSet() // of no numbers none can be wrong
	return s
}

func newSets(n int) []*work.Set {
	var l []*work.Set
	for range n {
		l = append(l, newSet())
	}
	return l
}

// lists are what sets have, rising.
func lists(sets []*work.Set) [][]int {
	var l [][]int
	for _, s := range sets {
		l = append(l, s.All())
	}
	return l
}
