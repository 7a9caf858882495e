package gram

import (
	"slices"
	"strings"

	"quoin/api"
)

// grammar is a plain grammar that may be, and where its rules stand.
type grammar struct {
	api.Plain
	own  [][]int // of each rule its productions, in order
	uses [][]int // of each rule the productions in which it stands, each as often as it does
}

func newGrammar(g api.Plain) *grammar {
	m := &grammar{Plain: g, own: make([][]int, len(g.Rules)), uses: make([][]int, len(g.Rules))}
	for prod, p := range g.Prods {
		m.own[p.Left] = append(m.own[p.Left], prod)
		for _, rule := range m.rulesOf(p.Right) {
			m.uses[rule] = append(m.uses[rule], prod)
		}
	}
	return m
}

// rule is a symbol's rule; false, if it is a kind.
func (g *grammar) rule(symbol int) (int, bool) {
	if symbol < len(g.Kinds) {
		return 0, false
	}
	return symbol - len(g.Kinds), true
}

// rulesOf are the rules of a row of symbols, each as often as it stands there.
func (g *grammar) rulesOf(row []int) []int {
	var l []int
	for _, symbol := range row {
		if rule, is := g.rule(symbol); is {
			l = append(l, rule)
		}
	}
	return l
}

// left are the rules that are still to be looked at.
type left map[int]struct{}

func (g *grammar) allLeft() left {
	l := left{}
	for rule := range g.Rules {
		l[rule] = struct{}{}
	}
	return l
}

// take tells whether a rule was still to be looked at; it is not any more.
func (l left) take(rule int) bool {
	_, is := l[rule]
	delete(l, rule)
	return is
}

// rounds finds rules: in each round those that have a production in which nothing is missing; what is found in it is missing nowhere from the next round on. It tells the production by which each was found, of those of that round the first; noProd, if it was not.
func (g *grammar) rounds(missing []int) []int {
	by := slices.Repeat([]int{noProd}, len(g.Rules))
	l := g.allLeft()
	ready := places(missing, 0)
	for len(ready) > 0 {
		slices.Sort(ready)
		var found []int
		for _, prod := range ready {
			if rule := g.Prods[prod].Left; l.take(rule) {
				by[rule] = prod
				found = append(found, rule)
			}
		}
		ready = g.readyBy(found, missing)
	}
	return by
}

const noProd = -1

// readyBy are the productions in which nothing is missing any more, now that these rules are found.
func (g *grammar) readyBy(found, missing []int) []int {
	var ready []int
	for _, rule := range found {
		for _, prod := range g.uses[rule] {
			missing[prod]--
			if missing[prod] == 0 {
				ready = append(ready, prod)
			}
		}
	}
	return ready
}

// places are where n stands in a list.
func places(l []int, n int) []int {
	var found []int
	for i, x := range l {
		if x == n {
			found = append(found, i)
		}
	}
	return found
}

// nullableRules are those that make the empty row.
func (g *grammar) nullableRules() []bool {
	var missing []int
	for _, p := range g.Prods {
		missing = append(missing, len(p.Right)) // a kind is never found
	}
	return areFound(g.rounds(missing))
}

// productiveRules are those that make a row of kinds.
func (g *grammar) productiveRules() []bool {
	return areFound(g.rounds(g.ruleCounts()))
}

// ruleCounts are how many rules stand in each production.
func (g *grammar) ruleCounts() []int {
	counts := make([]int, len(g.Prods))
	for _, prods := range g.uses {
		for _, prod := range prods {
			counts[prod]++
		}
	}
	return counts
}

func areFound(by []int) []bool {
	l := make([]bool, len(by))
	for rule, prod := range by {
		l[rule] = prod != noProd
	}
	return l
}

func everyProd(int) bool { return true }

// allAre tells of a production whether all rules in it are marked.
func (g *grammar) allAre(marked []bool) func(prod int) bool {
	return func(prod int) bool {
		return !slices.ContainsFunc(g.rulesOf(g.Prods[prod].Right), func(rule int) bool { return !marked[rule] })
	}
}

// reached are the rules to which Start leads by such productions.
func (g *grammar) reached(leads func(prod int) bool) []bool {
	marked := make([]bool, len(g.Rules))
	l := g.allLeft()
	l.take(g.Start)
	found := []int{g.Start}
	for at := 0; at < len(found); at++ { // there come more and more of them
		marked[found[at]] = true
		for _, rule := range g.next(found[at], leads) {
			if l.take(rule) {
				found = append(found, rule)
			}
		}
	}
	return marked
}

// next are the rules to which a rule leads by one such production.
func (g *grammar) next(rule int, leads func(prod int) bool) []int {
	var l []int
	for _, prod := range g.own[rule] {
		if leads(prod) {
			l = append(l, g.rulesOf(g.Prods[prod].Right)...)
		}
	}
	return l
}

// line is a production's line.
func line(g api.Plain, p api.Prod) string {
	var b strings.Builder
	b.WriteString(g.Rules[p.Left])
	b.WriteString(" =")
	for _, symbol := range p.Right {
		b.WriteString(" ")
		if symbol < len(g.Kinds) {
			b.WriteString(g.Kinds[symbol])
		} else {
			b.WriteString(g.Rules[symbol-len(g.Kinds)])
		}
	}
	return b.String()
}
