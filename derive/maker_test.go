package derive_test

import (
	"math/rand"
	"strconv"

	"quoin/api"
)

// maker makes grammars and rows by chance, the same ones in each run.
type maker struct{ *rand.Rand }

func newMaker(seed int64) *maker { return &maker{rand.New(rand.NewSource(seed))} }

// plain is a grammar that may be, of at most so many rules, productions of a rule, and symbols of a production.
func (m *maker) plain(rules, prods, right int) api.Plain {
	g := api.Plain{Kinds: []string{"end", "error"}}
	for kind := range m.Intn(3) {
		g.Kinds = append(g.Kinds, string(rune('a'+kind)))
	}
	g.Precs = make([]api.Prec, len(g.Kinds))
	for rule := range 1 + m.Intn(rules) {
		g.Rules = append(g.Rules, "R"+strconv.Itoa(rule))
	}
	g.Start = m.Intn(len(g.Rules))
	kinds := 1 + m.Intn(4) // how often kinds are taken
	for range m.Intn(len(g.Rules)*prods + 1) {
		p := api.Prod{Left: m.Intn(len(g.Rules)), Level: m.Intn(3)}
		for range m.Intn(right + 1) {
			p.Right = append(p.Right, m.symbol(g, kinds))
		}
		g.Prods = append(g.Prods, p)
	}
	return g
}

func (m *maker) symbol(g api.Plain, kinds int) int {
	if m.Intn(5) < kinds {
		return m.kind(g)
	}
	return len(g.Kinds) + m.Intn(len(g.Rules))
}

func (m *maker) kind(g api.Plain) int { return 1 + m.Intn(len(g.Kinds)-1) }

// row is a row of at most so many kinds.
func (m *maker) row(g api.Plain, most int) []int {
	var l []int
	for range m.Intn(most + 1) {
		l = append(l, m.kind(g))
	}
	return l
}

// choices are at most so many numbers, below 0 too.
func (m *maker) choices(most int) []int {
	var l []int
	for range m.Intn(most + 1) {
		l = append(l, m.Intn(20)-5)
	}
	return l
}
