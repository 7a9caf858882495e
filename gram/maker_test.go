package gram_test

import (
	"math/rand"
	"strconv"

	"quoin/api"
)

// maker makes grammars by chance, the same ones in each run.
type maker struct{ *rand.Rand }

func newMaker(seed int64) *maker { return &maker{rand.New(rand.NewSource(seed))} }

// plain is a grammar that may be, of at most so many rules, productions of a rule, and symbols of a production.
func (m *maker) plain(rules, prods, right int) api.Plain {
	g := api.Plain{Kinds: []string{"end", "error"}, Precs: make([]api.Prec, 2)}
	for kind := range m.Intn(4) {
		g.Kinds = append(g.Kinds, string(rune('a'+kind)))
		g.Precs = append(g.Precs, []api.Prec{{}, {Level: 1, Assoc: api.AssocLeft}, {Level: 7, Assoc: api.AssocRight}, {Level: 1, Assoc: api.AssocNot}}[m.Intn(4)])
	}
	for rule := range 1 + m.Intn(rules) {
		g.Rules = append(g.Rules, "R"+strconv.Itoa(rule))
	}
	g.Start = m.Intn(len(g.Rules))
	kinds := 1 + m.Intn(4) // how often kinds are taken
	for range m.Intn(len(g.Rules)*prods + 1) {
		p := api.Prod{Left: m.Intn(len(g.Rules)), Level: m.Intn(3)}
		for range m.Intn(right + 1) {
			p.Right = append(p.Right, m.symbol(g, kinds))
		}
		p.Act = m.act(3, len(p.Right))
		g.Prods = append(g.Prods, p)
	}
	return g
}

func (m *maker) symbol(g api.Plain, kinds int) int {
	if m.Intn(5) < kinds {
		return 1 + m.Intn(len(g.Kinds)-1)
	}
	return len(g.Kinds) + m.Intn(len(g.Rules))
}

// act is an action of so many symbols, of at most so many levels.
func (m *maker) act(levels, symbols int) api.Act {
	switch m.Intn(5) {
	case 1:
		return api.Act{Kind: api.ActText, Name: "t"[:m.Intn(2)]}
	case 2:
		if symbols > 0 {
			return api.Act{Kind: api.ActPick, At: m.Intn(symbols)}
		}
	case 3, 4:
		if levels > 0 {
			a := api.Act{Kind: api.ActNode, Name: "N"}
			for range m.Intn(3) {
				a.Kids = append(a.Kids, m.act(levels-1, symbols))
			}
			return a
		}
	}
	return api.Act{}
}
