// Package states is what layers have in common where they make states of items: a plain grammar with the start's production, its items, and what closes them.
package states

import (
	"cmp"
	"slices"

	"quoin/api"
	"quoin/gram"
)

// Grammar is a plain grammar that may be, with the start's production.
type Grammar struct {
	api.Plain
	whole []int // the Right of the start's production
}

// NewGrammar is a grammar of which all items of some lists are; ErrPlain, ErrItem.
func NewGrammar(g api.Plain, lists ...[]api.Item) (*Grammar, api.Errno) {
	if e := gram.Check(g); e != api.OK {
		return nil, e
	}
	m := &Grammar{g, []int{len(g.Kinds) + g.Start}}
	for _, l := range lists {
		if !m.HaveItems(l) {
			return nil, api.ErrItem
		}
	}
	return m, api.OK
}

// StartItem is the one with which all begins.
func (g *Grammar) StartItem() api.Item { return api.Item{Prod: len(g.Prods), Look: api.KindEnd} }

// HaveItems tells whether all of l are items of the grammar.
func (g *Grammar) HaveItems(l []api.Item) bool {
	for _, i := range l {
		if !g.isItem(i) {
			return false
		}
	}
	return true
}

func (g *Grammar) isItem(i api.Item) bool {
	return 0 <= i.Prod && i.Prod <= len(g.Prods) &&
		0 <= i.Dot && i.Dot <= len(g.Right(i.Prod)) &&
		0 <= i.Look && i.Look < len(g.Kinds)
}

// Right is a production's right side, the start's too.
func (g *Grammar) Right(prod int) []int {
	if prod == len(g.Prods) {
		return g.whole
	}
	return g.Prods[prod].Right
}

// Symbols is how many there are, of kinds and rules.
func (g *Grammar) Symbols() int { return len(g.Kinds) + len(g.Rules) }

// Rule is a symbol's rule; false, if it is a kind.
func (g *Grammar) Rule(symbol int) (int, bool) {
	if symbol < len(g.Kinds) {
		return 0, false
	}
	return symbol - len(g.Kinds), true
}

// Kernel are those of a state's items that are of its kernel.
func (g *Grammar) Kernel(state []api.Item) []api.Item {
	var l []api.Item
	for _, i := range state {
		if i.Dot > 0 || i.Prod == len(g.Prods) {
			l = append(l, i)
		}
	}
	return l
}

// Spot is a production and a place in it: an item without its Look.
type Spot struct{ Prod, Dot int }

// Core are the spots of items, which are rising.
func Core(l []api.Item) []Spot {
	var spots []Spot
	for _, i := range l {
		spots = append(spots, Spot{i.Prod, i.Dot})
	}
	return slices.Compact(spots)
}

// Compare is the order of a state's items.
func Compare(a, b api.Item) int {
	return cmp.Or(cmp.Compare(a.Prod, b.Prod), cmp.Compare(a.Dot, b.Dot), cmp.Compare(a.Look, b.Look))
}

// InOrder is a new list of items: each once, rising.
func InOrder(l []api.Item) []api.Item {
	l = slices.Clone(l)
	slices.SortFunc(l, Compare)
	return slices.Compact(l)
}
