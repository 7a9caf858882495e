package table_test

import (
	"math"
	"math/rand"
	"slices"
	"strconv"
	"testing"

	"quoin/api"
	"quoin/items"
	"quoin/pager"
	"quoin/solve"
)

// maker makes grammars and automata by chance, the same ones in each run.
type maker struct{ *rand.Rand }

func newMaker(seed int64) *maker { return &maker{rand.New(rand.NewSource(seed))} }

// plain is a grammar that may be, of at most so many rules, productions of a rule, and symbols of a production, with levels.
func (m *maker) plain(rules, prods, right int) api.Plain {
	g := api.Plain{Kinds: []string{"end", "error"}}
	for kind := range m.Intn(4) {
		g.Kinds = append(g.Kinds, string(rune('a'+kind)))
	}
	for rule := range 1 + m.Intn(rules) {
		g.Rules = append(g.Rules, "R"+strconv.Itoa(rule))
	}
	g.Start = m.Intn(len(g.Rules))
	kinds := 1 + m.Intn(4) // how often kinds are taken
	for range m.Intn(len(g.Rules)*prods + 1) {
		p := api.Prod{Left: m.Intn(len(g.Rules))}
		for range m.Intn(right + 1) {
			p.Right = append(p.Right, m.symbol(g, kinds))
		}
		g.Prods = append(g.Prods, p)
	}
	m.level(&g)
	return g
}

func (m *maker) symbol(g api.Plain, kinds int) int {
	if m.Intn(5) < kinds {
		return 1 + m.Intn(len(g.Kinds)-1)
	}
	return len(g.Kinds) + m.Intn(len(g.Rules))
}

// operators is a grammar of terms, some of whose operators are alike in all.
func (m *maker) operators() api.Plain {
	g := read("E T =; a b c d")
	g.Prods = []api.Prod{{Right: []int{2}}}
	for range 1 + m.Intn(4) {
		e, op := len(g.Kinds)+m.Intn(20)/19, 3+m.Intn(3)
		g.Prods = append(g.Prods, api.Prod{Left: e - len(g.Kinds), Right: [][]int{{e, op, e}, {e, op, e}, {op, e}, {e, op}, {e, e}}[m.Intn(5)]})
	}
	if m.Intn(2) == 0 {
		g.Prods = append(g.Prods, api.Prod{Right: []int{len(g.Kinds) + 1}}, api.Prod{Left: 1, Right: []int{len(g.Kinds)}})
	}
	m.Shuffle(len(g.Prods), func(i, j int) { g.Prods[i], g.Prods[j] = g.Prods[j], g.Prods[i] })
	m.level(&g)
	return g
}

// grammar is one of any of the kinds that a maker makes.
func (m *maker) grammar() api.Plain {
	if m.Intn(2) == 0 {
		return m.operators()
	}
	return m.plain(1+m.Intn(5), 1+m.Intn(3), 1+m.Intn(4))
}

// level gives a grammar's kinds and productions levels, or none.
func (m *maker) level(g *api.Plain) {
	g.Precs = make([]api.Prec, len(g.Kinds))
	g.Prods = slices.Clone(g.Prods)
	for kind := 2; kind < len(g.Kinds); kind++ {
		if level := m.Intn(4); level > 0 {
			g.Precs[kind] = api.Prec{Level: level, Assoc: 1 + m.Intn(3)}
		}
	}
	for prod := range g.Prods {
		g.Prods[prod].Level = m.Intn(4)
	}
}

// auto is an automaton of a grammar: a canonical one, or one in which states are put together, or are there twice.
func (m *maker) auto(t *testing.T, g api.Plain) api.Auto {
	t.Helper()
	var a api.Auto
	e := api.OK
	switch m.Intn(5) {
	case 0, 1:
		a, e = pager.Build(g)
	case 2:
		a, e = pager.Lalr(g)
	default:
		a, e = items.Build(g)
	}
	if m.Intn(4) == 0 {
		a = m.again(a)
	}
	if e != api.OK || items.Right(g, a) != api.OK {
		t.Fatal(text(g), a, e)
	}
	return a
}

// again is an automaton with a state once more, to which some of the ways lead that led to the first.
func (m *maker) again(a api.Auto) api.Auto {
	a = clone(a)
	s := m.Intn(len(a.States))
	a.States = append(a.States, slices.Clone(a.States[s]))
	a.Next = append(a.Next, slices.Clone(a.Next[s]))
	for _, row := range a.Next {
		for x, to := range row {
			if to == s && m.Intn(2) == 0 {
				row[x] = len(a.States) - 1
			}
		}
	}
	return a
}

// solved is the table of an automaton of a grammar, with its clashes.
func (m *maker) solved(t *testing.T, g api.Plain) (api.Table, []api.Clash) {
	t.Helper()
	x, l, e := solve.Solve(g, m.auto(t, g))
	if e != api.OK {
		t.Fatal(text(g), e)
	}
	return x, l
}

// table is one that may be for so many kinds, rules and productions.
func (m *maker) table(kinds, rules, prods int) api.Table {
	var x api.Table
	full := 1 + m.Intn(5) // how often there is something
	for range 1 + m.Intn(6) {
		x.Moves, x.Goto = append(x.Moves, make([]api.Move, kinds)), append(x.Goto, slices.Repeat([]int{-1}, rules))
	}
	for s := range x.Moves {
		for kind := range kinds {
			if m.Intn(5) < full {
				x.Moves[s][kind] = m.move(len(x.Moves), prods)
			}
		}
		for rule := range rules {
			if m.Intn(5) < full {
				x.Goto[s][rule] = m.Intn(len(x.Moves))
			}
		}
	}
	return x
}

func (m *maker) move(states, prods int) api.Move {
	switch n := m.Intn(8); {
	case n < 3:
		return api.Move{Do: api.MoveShift, N: m.Intn(states)}
	case n < 7 && prods > 0:
		return api.Move{Do: api.MoveReduce, N: m.Intn(min(prods, 3))}
	case n == 7:
		return api.Move{Do: api.MoveAccept}
	}
	return api.Move{}
}

// turn changes a move or a Goto of a table that may be to another one that may be.
func (m *maker) turn(x *api.Table, prods int) {
	s := m.Intn(len(x.Moves))
	if rules := len(x.Goto[s]); m.Intn(3) == 0 && rules > 0 {
		x.Goto[s][m.Intn(rules)] = m.Intn(len(x.Moves)+1) - 1
		return
	}
	x.Moves[s][m.Intn(len(x.Moves[s]))] = m.move(len(x.Moves), prods)
}

// spoil changes something in a table, so that it may be none any more.
func (m *maker) spoil(x *api.Table) {
	s := m.Intn(len(x.Moves))
	if len(x.Goto) <= s || len(x.Moves[s]) == 0 || len(x.Goto[s]) == 0 { // it was spoilt enough, or has no rules
		return
	}
	kind, rule := m.Intn(len(x.Moves[s])), m.Intn(len(x.Goto[s]))
	switch m.Intn(9) {
	case 0:
		x.Moves[s][kind].Do = m.number()
	case 1:
		x.Moves[s][kind].N = m.number()
	case 2:
		x.Goto[s][rule] = m.number()
	case 3:
		x.Moves[s] = x.Moves[s][:kind]
	case 4:
		x.Moves[s] = append(x.Moves[s], api.Move{})
	case 5:
		x.Goto[s] = x.Goto[s][:rule]
	case 6:
		x.Goto[s] = append(x.Goto[s], -1)
	case 7:
		x.Moves = slices.Delete(x.Moves, s, s+1)
	case 8:
		x.Goto = slices.Delete(x.Goto, s, s+1)
	}
}

// number is a small one, or one of those at which something ends.
func (m *maker) number() int {
	edges := []int{math.MinInt, math.MinInt32, -2, -1, 127, 128, 1<<14 - 1, 1 << 14, 1<<31 - 2, 1<<31 - 1, 1 << 31, 1 << 32, math.MaxInt - 1, math.MaxInt}
	if m.Intn(2) == 0 {
		return edges[m.Intn(len(edges))]
	}
	return m.Intn(9) - 2
}

// packed is a packed table that nobody packed.
func (m *maker) packed() api.Packed {
	p := api.Packed{Kinds: m.Intn(6), Rules: m.Intn(6) - 1}
	states := m.Intn(4)
	for range states {
		p.Default = append(p.Default, api.Move{Do: m.Intn(6) - 1, N: m.number()})
	}
	for range m.about(states) {
		p.Base = append(p.Base, m.Intn(8)-3)
	}
	for range m.about(states) {
		p.GotoBase = append(p.GotoBase, m.Intn(8)-3)
	}
	places := m.Intn(8)
	for range places {
		p.Check, p.GotoCheck = append(p.Check, m.Intn(states+2)-1), append(p.GotoCheck, m.Intn(states+2)-1)
		p.Cell, p.GotoCell = append(p.Cell, api.Move{Do: m.Intn(6) - 1, N: m.number()}), append(p.GotoCell, m.number())
	}
	p.Check, p.Cell = p.Check[:m.Intn(places+1)], p.Cell[:m.Intn(places+1)]
	p.GotoCheck, p.GotoCell = p.GotoCheck[:m.Intn(places+1)], p.GotoCell[:m.Intn(places+1)]
	if m.Intn(6) == 0 && len(p.Base) > 0 && len(p.GotoBase) > 0 {
		p.Base[0], p.GotoBase[0] = m.number(), m.number()
	}
	return p
}

// about is a count, or one more or less.
func (m *maker) about(n int) int {
	if m.Intn(4) > 0 {
		return n
	}
	return max(0, n+m.Intn(3)-1)
}
