package solve_test

import (
	"math/rand"
	"slices"
	"strconv"
	"testing"

	"quoin/api"
	"quoin/items"
	"quoin/pager"
)

// maker makes grammars and automata by chance, the same ones in each run.
type maker struct{ *rand.Rand }

func newMaker(seed int64) *maker { return &maker{rand.New(rand.NewSource(seed))} }

// plain is a grammar that may be, of at most so many rules, productions of a rule, and symbols of a production, with levels.
func (m *maker) plain(rules, prods, right int) api.Plain {
	g := api.Plain{Kinds: []string{"end", "error"}}
	for kind := range m.Intn(4) {
		g.Kinds = append(g.Kinds, string(rune('a'+kind)))
	}
	for rule := range 1 + m.Intn(rules) {
		g.Rules = append(g.Rules, "R"+strconv.Itoa(rule))
	}
	g.Start = m.Intn(len(g.Rules))
	kinds := 1 + m.Intn(4) // how often kinds are taken
	for range m.Intn(len(g.Rules)*prods + 1) {
		p := api.Prod{Left: m.Intn(len(g.Rules))}
		for range m.Intn(right + 1) {
			p.Right = append(p.Right, m.symbol(g, kinds))
		}
		g.Prods = append(g.Prods, p)
	}
	m.level(&g)
	return g
}

func (m *maker) symbol(g api.Plain, kinds int) int {
	if m.Intn(5) < kinds {
		return 1 + m.Intn(len(g.Kinds)-1)
	}
	return len(g.Kinds) + m.Intn(len(g.Rules))
}

// operators is a grammar of terms, some of whose operators are alike in all.
func (m *maker) operators() api.Plain {
	g := read("E T =; a b c d")
	g.Prods = []api.Prod{{Right: []int{2}}}
	for range 1 + m.Intn(4) {
		e, op := len(g.Kinds)+m.Intn(20)/19, 3+m.Intn(3)
		g.Prods = append(g.Prods, api.Prod{Left: e - len(g.Kinds), Right: [][]int{{e, op, e}, {e, op, e}, {op, e}, {e, op}, {e, e}}[m.Intn(5)]})
	}
	if m.Intn(2) == 0 {
		g.Prods = append(g.Prods, api.Prod{Right: []int{len(g.Kinds) + 1}}, api.Prod{Left: 1, Right: []int{len(g.Kinds)}})
	}
	m.Shuffle(len(g.Prods), func(i, j int) { g.Prods[i], g.Prods[j] = g.Prods[j], g.Prods[i] })
	m.level(&g)
	return g
}

// grammar is one of any of the kinds that a maker makes.
func (m *maker) grammar() api.Plain {
	if m.Intn(2) == 0 {
		return m.operators()
	}
	return m.plain(1+m.Intn(5), 1+m.Intn(3), 1+m.Intn(4))
}

// level gives a grammar's kinds and productions levels, or none.
func (m *maker) level(g *api.Plain) {
	g.Precs = make([]api.Prec, len(g.Kinds))
	g.Prods = slices.Clone(g.Prods)
	for kind := 2; kind < len(g.Kinds); kind++ {
		if level := m.Intn(4); level > 0 {
			g.Precs[kind] = api.Prec{Level: level, Assoc: 1 + m.Intn(3)}
		}
	}
	for prod := range g.Prods {
		g.Prods[prod].Level = m.Intn(4)
	}
}

// auto is an automaton that is right for a grammar.
func (m *maker) auto(t *testing.T, g api.Plain) api.Auto {
	t.Helper()
	var a api.Auto
	e := api.OK
	switch m.Intn(5) {
	case 0:
		a, e = pager.Build(g)
	case 1:
		a, e = pager.Lalr(g)
	case 2:
		a = m.from(g, startItem(g), m.item(g), m.item(g))
	default:
		a, e = items.Build(g)
	}
	if e == api.OK && m.Intn(3) == 0 {
		a = m.again(a)
	}
	if e != api.OK || items.Right(g, a) != api.OK {
		t.Fatal(text(g), a, e)
	}
	return a
}

// item is one of a grammar's.
func (m *maker) item(g api.Plain) api.Item {
	prod := m.Intn(len(g.Prods) + 1)
	return api.Item{Prod: prod, Dot: m.Intn(len(wordRight(g, prod)) + 1), Look: m.Intn(len(g.Kinds))}
}

// from is the automaton whose first state is the closure of items.
func (m *maker) from(g api.Plain, l ...api.Item) api.Auto {
	first, _ := items.Closure(g, l...)
	a := api.Auto{States: [][]api.Item{first}}
	for s := 0; s < len(a.States); s++ {
		row := []int{-1}
		for x := 1; x < size(g); x++ {
			to, _ := items.Go(g, a.States[s], x)
			n := slices.IndexFunc(a.States, func(l []api.Item) bool { return slices.Equal(l, to) })
			if len(to) > 0 && n < 0 {
				n = len(a.States)
				a.States = append(a.States, to)
			}
			row = append(row, n)
		}
		a.Next = append(a.Next, row)
	}
	return a
}

// again is an automaton with a state once more, to which some of the ways lead that led to the first.
func (m *maker) again(a api.Auto) api.Auto {
	a = clone(a)
	s := m.Intn(len(a.States))
	a.States = append(a.States, slices.Clone(a.States[s]))
	a.Next = append(a.Next, slices.Clone(a.Next[s]))
	for _, row := range a.Next {
		for x, to := range row {
			if to == s && m.Intn(2) == 0 {
				row[x] = len(a.States) - 1
			}
		}
	}
	return a
}

// turn changes something in an automaton.
func (m *maker) turn(g api.Plain, a *api.Auto) {
	s := m.Intn(len(a.States))
	l := &a.States[s]
	if len(*l) == 0 || len(a.Next[s]) == 0 { // it was turned enough
		return
	}
	switch m.Intn(8) {
	case 0:
		a.Next[s][m.Intn(len(a.Next[s]))] = m.Intn(len(a.States)+2) - 1
	case 1:
		a.Next[s][m.Intn(len(a.Next[s]))] = -1 - m.Intn(2)
	case 2:
		a.Next[s] = a.Next[s][:len(a.Next[s])-1]
	case 3:
		a.Next[s] = append(a.Next[s], -1)
	case 4:
		at := m.Intn(len(*l))
		*l = slices.Delete(*l, at, at+1)
	case 5:
		*l = append(*l, m.item(g))
	case 6:
		*l, _ = items.Closure(g, append(*l, m.item(g))...)
	case 7:
		(*l)[m.Intn(len(*l))] = api.Item{Prod: m.Intn(len(g.Prods)+3) - 1, Look: m.Intn(len(g.Kinds)+2) - 1}
	}
}
