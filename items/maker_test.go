package items_test

import (
	"math/rand"
	"slices"
	"strconv"

	"quoin/api"
)

// maker makes grammars, items and automata by chance, the same ones in each run.
type maker struct{ *rand.Rand }

func newMaker(seed int64) *maker { return &maker{rand.New(rand.NewSource(seed))} }

// plain is a grammar that may be, of at most so many rules, productions of a rule, and symbols of a production.
func (m *maker) plain(rules, prods, right int) api.Plain {
	g := api.Plain{Kinds: []string{"end", "error"}}
	for kind := range m.Intn(3) {
		g.Kinds = append(g.Kinds, string(rune('a'+kind)))
	}
	g.Precs = make([]api.Prec, len(g.Kinds))
	for rule := range 1 + m.Intn(rules) {
		g.Rules = append(g.Rules, "R"+strconv.Itoa(rule))
	}
	g.Start = m.Intn(len(g.Rules))
	kinds := 1 + m.Intn(4) // how often kinds are taken
	for range m.Intn(len(g.Rules)*prods + 1) {
		p := api.Prod{Left: m.Intn(len(g.Rules)), Level: m.Intn(3)}
		for range m.Intn(right + 1) {
			p.Right = append(p.Right, m.symbol(g, kinds))
		}
		g.Prods = append(g.Prods, p)
	}
	return g
}

func (m *maker) symbol(g api.Plain, kinds int) int {
	if m.Intn(5) < kinds {
		return 1 + m.Intn(len(g.Kinds)-1)
	}
	return len(g.Kinds) + m.Intn(len(g.Rules))
}

// item is one of a grammar's.
func (m *maker) item(g api.Plain) api.Item {
	prod := m.Intn(len(g.Prods) + 1)
	return api.Item{Prod: prod, Dot: m.Intn(len(wordRight(g, prod)) + 1), Look: m.Intn(len(g.Kinds))}
}

// items are at most so many of a grammar's, some of them twice, in any order.
func (m *maker) items(g api.Plain, most int) []api.Item {
	var l []api.Item
	for range m.Intn(most + 1) {
		if len(l) > 0 && m.Intn(5) == 0 {
			l = append(l, l[m.Intn(len(l))])
		} else {
			l = append(l, m.item(g))
		}
	}
	return l
}

// shuffled are items in another order, some of them twice.
func (m *maker) shuffled(l []api.Item) []api.Item {
	l = slices.Clone(l)
	for _, i := range l {
		if m.Intn(4) == 0 {
			l = append(l, i)
		}
	}
	m.Shuffle(len(l), func(i, j int) { l[i], l[j] = l[j], l[i] })
	return l
}

// graph is an automaton of which Next alone means something.
func (m *maker) graph(states, symbols int) api.Auto {
	a := api.Auto{States: make([][]api.Item, states)}
	for range states {
		var row []int
		for range symbols {
			row = append(row, m.Intn(states+1)-1)
			if m.Intn(2) == 0 {
				row[len(row)-1] = -1
			}
		}
		a.Next = append(a.Next, row)
	}
	return a
}

// turn changes something in an automaton.
func (m *maker) turn(g api.Plain, a *api.Auto) {
	s := m.Intn(len(a.States))
	l := &a.States[s]
	if len(*l) == 0 || len(a.Next[s]) == 0 { // it was turned enough
		return
	}
	switch m.Intn(12) {
	case 0:
		a.Next[s][m.Intn(len(a.Next[s]))] = m.Intn(len(a.States)+2) - 1
	case 1:
		a.Next[s][m.Intn(len(a.Next[s]))] = -1 - m.Intn(2)
	case 2:
		a.Next[s] = a.Next[s][:len(a.Next[s])-1]
	case 3:
		a.Next[s] = append(a.Next[s], -1)
	case 4:
		*l = slices.Delete(*l, m.Intn(len(*l)), len(*l))
	case 5:
		at := m.Intn(len(*l))
		*l = slices.Delete(*l, at, at+1)
	case 6:
		*l = append(*l, m.item(g))
	case 7, 8:
		*l = wordOrder(append(*l, m.item(g)))
	case 9, 10:
		*l = wordsOf(g).closure(append(*l, m.item(g))...)
	case 11:
		i := m.item(g)
		i.Look = []int{-1, len(g.Kinds), i.Look}[m.Intn(3)]
		(*l)[m.Intn(len(*l))] = i
	}
}

// again is an automaton with a state once more, to which some of the ways lead that led to the first.
func (m *maker) again(a api.Auto) api.Auto {
	a = clone(a)
	s := m.Intn(len(a.States))
	a.States = append(a.States, slices.Clone(a.States[s]))
	a.Next = append(a.Next, slices.Clone(a.Next[s]))
	for _, row := range a.Next {
		for x, to := range row {
			if to == s && m.Intn(2) == 0 {
				row[x] = len(a.States) - 1
			}
		}
	}
	return a
}

// putTogether is an automaton in which the states of some cores are one: if two are, those to which both lead are, too.
func (m *maker) putTogether(g api.Plain, a api.Auto, isAll bool) api.Auto {
	w := wordsOf(g)
	stands := make([]int, len(a.States)) // of each state the one that stands for it
	for s := range stands {
		stands[s] = s
	}
	var join func(s, r int)
	join = func(s, r int) {
		s, r = stands[s], stands[r]
		if s == r {
			return
		}
		for i, x := range stands {
			if x == s || x == r {
				stands[i] = min(s, r)
			}
		}
		for x := range size(g) {
			if a.Next[s][x] >= 0 {
				join(a.Next[s][x], a.Next[r][x])
			}
		}
	}
	for s := range a.States {
		for r := range s {
			if told(core(w, a.States[s])) == told(core(w, a.States[r])) && (isAll || m.Intn(3) == 0) {
				join(s, r)
			}
		}
	}
	return united(a, stands)
}

// core is a state's kernel without its Looks.
func core(w words, state []api.Item) []api.Item {
	l := w.kernel(state)
	for i := range l {
		l[i].Look = 0
	}
	return wordOrder(l)
}

// united is an automaton with one state for all those for which one stands.
func united(a api.Auto, stands []int) api.Auto {
	var made api.Auto
	number := map[int]int{}
	for s, r := range stands {
		if s == r {
			number[s] = len(made.States)
			made.States = append(made.States, nil)
			made.Next = append(made.Next, slices.Clone(a.Next[s]))
		}
	}
	for s, r := range stands {
		n := number[r]
		made.States[n] = wordOrder(append(made.States[n], a.States[s]...))
	}
	for _, row := range made.Next {
		for x, to := range row {
			if to >= 0 {
				row[x] = number[stands[to]]
			}
		}
	}
	return made
}
