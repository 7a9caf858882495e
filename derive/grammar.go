package derive

import (
	"quoin/api"
)

// grammar is a plain grammar that may be, and its heads: the rules, and behind them the productions up to each dot with symbols on both sides.
type grammar struct {
	api.Plain
	heads  []head
	dots   []int    // of each production where its heads stand: that of a dot is so far behind
	firsts [][]head // of each symbol the productions that begin with it, with the dot ahead of it
	empty  []int    // the productions without symbols
}

// head is a production up to a dot: symbol stands behind it, and behind that the head next goes on; it is the rule itself where nothing is left. (Of a rule's own head nothing is told.)
type head struct{ prod, symbol, next int }

func newGrammar(g api.Plain) *grammar {
	m := &grammar{Plain: g, heads: make([]head, len(g.Rules)), firsts: make([][]head, len(g.Kinds)+len(g.Rules))}
	alike := map[short]int{}
	for prod, p := range g.Prods {
		m.dots = append(m.dots, len(m.heads)-1)
		if len(p.Right) > 1 || !isThird(alike, p) {
			m.enter(prod, p.Right)
		}
	}
	return m
}

// short is a production of one symbol, or of none.
type short struct{ rule, symbol int }

// isThird tells whether two short productions like this one were met. The least of them stands in trees, and the next one makes them several: of more nothing new is known.
func isThird(alike map[short]int, p api.Prod) bool {
	s := short{p.Left, noSymbol}
	if len(p.Right) == 1 {
		s.symbol = p.Right[0]
	}
	alike[s]++
	return alike[s] > 2
}

// enter lays a production's heads in.
func (g *grammar) enter(prod int, right []int) {
	if len(right) == 0 {
		g.empty = append(g.empty, prod)
	}
	for dot, symbol := range right {
		h := head{prod, symbol, g.headAt(prod, dot+1)}
		if dot == 0 {
			g.firsts[symbol] = append(g.firsts[symbol], h)
		} else {
			g.heads = append(g.heads, h)
		}
	}
}

// headAt is the head of a production up to a dot that is not ahead of all symbols.
func (g *grammar) headAt(prod, dot int) int {
	if dot == len(g.Prods[prod].Right) {
		return g.Prods[prod].Left
	}
	return g.dots[prod] + dot
}

func (g *grammar) isRule(head int) bool { return head < len(g.Rules) }

// rule is a symbol's rule; false, if it is a kind.
func (g *grammar) rule(symbol int) (int, bool) {
	if symbol < len(g.Kinds) {
		return 0, false
	}
	return symbol - len(g.Kinds), true
}

// What stands where there is none.
const (
	noProd   = -1
	noSymbol = -1
	noRule   = -1
)

func (g *grammar) ruleOrNone(symbol int) int {
	if rule, is := g.rule(symbol); is {
		return rule
	}
	return noRule
}

// rulesOf are the rules of a row of symbols, each as often as it stands there.
func (g *grammar) rulesOf(row []int) []int {
	var l []int
	for _, symbol := range row {
		if rule, is := g.rule(symbol); is {
			l = append(l, rule)
		}
	}
	return l
}

// allAre tells whether all rules of a row of symbols are marked.
func (g *grammar) allAre(row []int, marked []bool) bool {
	for _, rule := range g.rulesOf(row) {
		if !marked[rule] {
			return false
		}
	}
	return true
}

// areKinds tells whether all of a row are kinds that a token may have.
func areKinds(g api.Plain, row []int) bool {
	for _, kind := range row {
		if kind <= api.KindEnd || kind >= len(g.Kinds) {
			return false
		}
	}
	return true
}
