package gram

import (
	"quoin/api"
	"quoin/copies"
)

// only is the grammar of some of its rules, and of those of their productions that are kept: in these no other rule may stand. Start must be one of them.
func (g *grammar) only(rules []bool, isKept func(prod int) bool) api.Plain {
	made := api.Plain{Kinds: copies.Words(g.Kinds), Precs: append([]api.Prec(nil), g.Precs...)}
	places := make([]int, len(g.Rules))
	for rule, name := range g.Rules {
		if rules[rule] {
			places[rule] = len(made.Rules)
			made.Rules = append(made.Rules, name)
		}
	}
	made.Start = places[g.Start]
	for prod, p := range g.Prods {
		if rules[p.Left] && isKept(prod) {
			made.Prods = append(made.Prods, g.moved(p, places))
		}
	}
	return made
}

// moved is a production in memory of its own, with the rules' new places.
func (g *grammar) moved(p api.Prod, places []int) api.Prod {
	made := api.Prod{Left: places[p.Left], Level: p.Level, Act: copies.Act(p.Act)}
	for _, symbol := range p.Right {
		if rule, is := g.rule(symbol); is {
			symbol = len(g.Kinds) + places[rule]
		}
		made.Right = append(made.Right, symbol)
	}
	return made
}
