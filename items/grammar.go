package items

import (
	"strings"

	"quoin/api"
	"quoin/states"
)

// steps are, of each symbol by which a state goes on, its items ahead of that symbol, the point behind it. They are in the order of the state's items.
func steps(g *states.Grammar, state []api.Item) map[int][]api.Item {
	m := map[int][]api.Item{}
	for _, i := range state {
		if right := g.Right(i.Prod); i.Dot < len(right) {
			symbol := right[i.Dot]
			i.Dot++
			m[symbol] = append(m[symbol], i)
		}
	}
	return m
}

// line is an item's line.
func line(g *states.Grammar, i api.Item) string {
	var b strings.Builder
	if i.Prod == len(g.Prods) {
		b.WriteString("start")
	} else {
		b.WriteString(g.Rules[g.Prods[i.Prod].Left])
	}
	b.WriteString(" =")
	right := g.Right(i.Prod)
	write(&b, g, right[:i.Dot])
	b.WriteString(" .")
	write(&b, g, right[i.Dot:])
	b.WriteString(" , ")
	b.WriteString(g.Kinds[i.Look])
	return b.String()
}

// write tells the names of a row of symbols, each behind a blank.
func write(b *strings.Builder, g *states.Grammar, row []int) {
	for _, symbol := range row {
		b.WriteString(" ")
		if rule, is := g.Rule(symbol); is {
			b.WriteString(g.Rules[rule])
		} else {
			b.WriteString(g.Kinds[symbol])
		}
	}
}
