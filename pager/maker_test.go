package pager_test

import (
	"math/rand"
	"slices"
	"strconv"

	"quoin/api"
)

// maker makes grammars, items and automata by chance, the same ones in each run.
type maker struct{ *rand.Rand }

func newMaker(seed int64) *maker { return &maker{rand.New(rand.NewSource(seed))} }

// plain is a grammar that may be, of at most so many rules, productions of a rule, and symbols of a production.
func (m *maker) plain(rules, prods, right int) api.Plain {
	g := api.Plain{Kinds: []string{"end", "error"}}
	for kind := range m.Intn(3) {
		g.Kinds = append(g.Kinds, string(rune('a'+kind)))
	}
	g.Precs = make([]api.Prec, len(g.Kinds))
	for rule := range 1 + m.Intn(rules) {
		g.Rules = append(g.Rules, "R"+strconv.Itoa(rule))
	}
	g.Start = m.Intn(len(g.Rules))
	kinds := 1 + m.Intn(4) // how often kinds are taken
	for range m.Intn(len(g.Rules)*prods + 1) {
		p := api.Prod{Left: m.Intn(len(g.Rules)), Level: m.Intn(3)}
		for range m.Intn(right + 1) {
			p.Right = append(p.Right, m.symbol(g, kinds))
		}
		g.Prods = append(g.Prods, p)
	}
	return g
}

func (m *maker) symbol(g api.Plain, kinds int) int {
	if m.Intn(5) < kinds {
		return 1 + m.Intn(len(g.Kinds)-1)
	}
	return len(g.Kinds) + m.Intn(len(g.Rules))
}

// item is one of a grammar's.
func (m *maker) item(g api.Plain) api.Item {
	prod := m.Intn(len(g.Prods) + 1)
	return api.Item{Prod: prod, Dot: m.Intn(len(wordRight(g, prod)) + 1), Look: m.Intn(len(g.Kinds))}
}

// items are at most so many of a grammar's, some of them twice, in any order.
func (m *maker) items(g api.Plain, most int) []api.Item {
	var l []api.Item
	for range m.Intn(most + 1) {
		if len(l) > 0 && m.Intn(5) == 0 {
			l = append(l, l[m.Intn(len(l))])
		} else {
			l = append(l, m.item(g))
		}
	}
	return l
}

// shuffled are items in another order, some of them twice.
func (m *maker) shuffled(l []api.Item) []api.Item {
	l = slices.Clone(l)
	for _, i := range l {
		if m.Intn(4) == 0 {
			l = append(l, i)
		}
	}
	m.Shuffle(len(l), func(i, j int) { l[i], l[j] = l[j], l[i] })
	return l
}

// contexts is a grammar of rules of like rows, in many contexts: so that states of one core are many, and of unlike Looks.
func (m *maker) contexts() api.Plain {
	g := read("S A B C X Y =; a b c d e f")
	g.Prods = nil
	kind := func(least, most int) int { return 2 + least + m.Intn(most-least+1) }
	rule := func(least, most int) int { return len(g.Kinds) + least + m.Intn(most-least+1) }
	last := 1 + m.Intn(5) // of the rules
	add := func(left int, right ...int) {
		if m.Intn(6) == 0 {
			right = right[:len(right)-1]
		}
		g.Prods = append(g.Prods, api.Prod{Left: left, Right: right})
	}
	for range 2 + m.Intn(7) {
		add(0, kind(0, 3), rule(1, last), kind(3, 5))
	}
	for r := 4; r <= last; r++ {
		for range 1 + m.Intn(3) {
			add(r, kind(0, 1), rule(1, last), kind(3, 5))
		}
	}
	for r := 1; r <= min(last, 3); r++ {
		switch m.Intn(5) {
		case 0:
			add(r, 4, rule(1, last))
		case 1:
			add(r, 4, rule(1, min(last, 3)), rule(1, min(last, 3)))
		case 2:
			add(r, 4, 2)
		}
		g.Prods = append(g.Prods, api.Prod{Left: r, Right: []int{4}})
	}
	return g
}

// parting is a grammar of two rules alike in all, behind others with and without a Look of their own, in several contexts: so that states that were put together may part again.
func (m *maker) parting() api.Plain {
	g := read("S A B X Y Z =; a b c d e f g h i j k l")
	g.Prods = nil
	last := 4 + m.Intn(2)
	look := func() int { return 6 + m.Intn(4) }
	add := func(left int, ahead []int, rule int, hasLook bool) {
		right := append(ahead, len(g.Kinds)+rule)
		if hasLook {
			right = append(right, look())
		}
		g.Prods = append(g.Prods, api.Prod{Left: left, Right: right})
	}
	for range 3 + m.Intn(5) {
		var ahead []int
		if m.Intn(3) > 0 {
			ahead = append(ahead, 9+m.Intn(5))
		}
		add(0, ahead, 3+m.Intn(last-2), m.Intn(5) > 0)
	}
	for rule := 3; rule <= last; rule++ {
		hasLook := m.Intn(2) == 0
		add(rule, []int{rule - 1}, 1, hasLook)
		add(rule, []int{rule - 1}, 2, !hasLook || m.Intn(5) == 0)
	}
	for rule := 1; rule < 3; rule++ {
		g.Prods = append(g.Prods, api.Prod{Left: rule, Right: []int{5}})
		if m.Intn(5) == 0 {
			g.Prods = append(g.Prods, api.Prod{Left: rule, Right: []int{5, len(g.Kinds) + 1 + m.Intn(last)}})
		}
	}
	return g
}

// pair are items of two states, in any order, some twice: mostly such whose kernels have one core.
func (m *maker) pair(g api.Plain) (a, b []api.Item) {
	kinds := 1 + m.Intn(len(g.Kinds)) // that are Looks
	for range m.Intn(5) {
		i := m.item(g)
		if i.Dot == 0 && i.Prod < len(g.Prods) {
			continue
		}
		for _, l := range []*[]api.Item{&a, &b} {
			for range 1 + m.Intn(2) {
				i.Look = m.Intn(kinds)
				*l = append(*l, i)
			}
		}
	}
	for _, l := range []*[]api.Item{&a, &b} {
		for range m.Intn(3) {
			i := m.item(g)
			if i.Prod < len(g.Prods) && m.Intn(10) > 0 {
				i.Dot = 0
			} else if m.Intn(3) > 0 {
				continue
			}
			*l = append(*l, i)
		}
	}
	return m.shuffled(a), m.shuffled(b)
}
