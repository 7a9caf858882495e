package items

import (
	"cmp"
	"slices"
	"strings"

	"quoin/api"
	"quoin/gram"
)

// grammar is a plain grammar that may be, with the start's production.
type grammar struct {
	api.Plain
	whole []int // the Right of the start's production
}

// newGrammar is a grammar of which items are; ErrPlain, ErrItem.
func newGrammar(g api.Plain, l []api.Item) (*grammar, api.Errno) {
	if e := gram.Check(g); e != api.OK {
		return nil, e
	}
	m := &grammar{g, []int{len(g.Kinds) + g.Start}}
	if !m.haveItems(l) {
		return nil, api.ErrItem
	}
	return m, api.OK
}

// startItem is the one with which all begins.
func (g *grammar) startItem() api.Item { return api.Item{Prod: len(g.Prods), Look: api.KindEnd} }

// haveItems tells whether all of l are items of the grammar.
func (g *grammar) haveItems(l []api.Item) bool {
	for _, i := range l {
		if !g.isItem(i) {
			return false
		}
	}
	return true
}

func (g *grammar) isItem(i api.Item) bool {
	return 0 <= i.Prod && i.Prod <= len(g.Prods) &&
		0 <= i.Dot && i.Dot <= len(g.right(i.Prod)) &&
		0 <= i.Look && i.Look < len(g.Kinds)
}

// right is a production's right side, the start's too.
func (g *grammar) right(prod int) []int {
	if prod == len(g.Prods) {
		return g.whole
	}
	return g.Prods[prod].Right
}

// symbols is how many there are, of kinds and rules.
func (g *grammar) symbols() int { return len(g.Kinds) + len(g.Rules) }

// rule is a symbol's rule; false, if it is a kind.
func (g *grammar) rule(symbol int) (int, bool) {
	if symbol < len(g.Kinds) {
		return 0, false
	}
	return symbol - len(g.Kinds), true
}

// ruleAt is the rule ahead of which a point stands; false, if none is there.
func (g *grammar) ruleAt(prod, dot int) (int, bool) {
	right := g.right(prod)
	if dot == len(right) {
		return 0, false
	}
	return g.rule(right[dot])
}

// steps are, of each symbol by which a state goes on, its items ahead of that symbol, the point behind it. They are in the order of the state's items.
func (g *grammar) steps(state []api.Item) map[int][]api.Item {
	m := map[int][]api.Item{}
	for _, i := range state {
		if right := g.right(i.Prod); i.Dot < len(right) {
			symbol := right[i.Dot]
			i.Dot++
			m[symbol] = append(m[symbol], i)
		}
	}
	return m
}

// kernel are those of a state's items that are of its kernel.
func (g *grammar) kernel(state []api.Item) []api.Item {
	var l []api.Item
	for _, i := range state {
		if i.Dot > 0 || i.Prod == len(g.Prods) {
			l = append(l, i)
		}
	}
	return l
}

// line is an item's line.
func (g *grammar) line(i api.Item) string {
	var b strings.Builder
	if i.Prod == len(g.Prods) {
		b.WriteString("start")
	} else {
		b.WriteString(g.Rules[g.Prods[i.Prod].Left])
	}
	b.WriteString(" =")
	right := g.right(i.Prod)
	g.write(&b, right[:i.Dot])
	b.WriteString(" .")
	g.write(&b, right[i.Dot:])
	b.WriteString(" , ")
	b.WriteString(g.Kinds[i.Look])
	return b.String()
}

// write tells the names of a row of symbols, each behind a blank.
func (g *grammar) write(b *strings.Builder, row []int) {
	for _, symbol := range row {
		b.WriteString(" ")
		if rule, is := g.rule(symbol); is {
			b.WriteString(g.Rules[rule])
		} else {
			b.WriteString(g.Kinds[symbol])
		}
	}
}

// compare is the order of a state's items.
func compare(a, b api.Item) int {
	return cmp.Or(cmp.Compare(a.Prod, b.Prod), cmp.Compare(a.Dot, b.Dot), cmp.Compare(a.Look, b.Look))
}

// inOrder is a new list of items: each once, rising.
func inOrder(l []api.Item) []api.Item {
	l = slices.Clone(l)
	slices.SortFunc(l, compare)
	return slices.Compact(l)
}
