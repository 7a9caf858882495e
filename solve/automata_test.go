package solve_test

import (
	"slices"
	"testing"

	"quoin/api"
	"quoin/items"
	"quoin/pager"
	"quoin/solve"
)

// L1 and L2: of canonical automata, of merged ones, and of others that may be.

// The same grammar by three automata: the LALR one has clashes that the others have not.
func TestThreeAutomata(t *testing.T) {
	g := read("S = a A d; S = b B d; S = a B e; S = b A e; A = c; B = c; left d; right e")
	merged, e := pager.Build(g)
	united, eUnited := pager.Lalr(g)
	if e != api.OK || eUnited != api.OK {
		t.Fatal(e, eUnited)
	}
	for _, a := range []api.Auto{built(t, g), merged} {
		if _, l := likeWords(t, g, a); len(a.States) != 14 || !solve.Free(l...) {
			t.Error(l)
		}
	}
	x, l := likeWords(t, g, united)
	s := wayTo(g, united, "a c")
	d, end := symbols(g, "d")[0], symbols(g, "e")[0]
	reduce := api.Move{Do: api.MoveReduce, N: 4}
	want := []api.Clash{{State: s, Kind: d, Shift: -1, Prods: []int{4, 5}, Won: reduce}, {State: s, Kind: end, Shift: -1, Prods: []int{4, 5}, Won: reduce}}
	if len(united.States) != 13 || told(l) != told(want) || solve.Settled(l...) || x.Moves[s][d] != reduce {
		t.Errorf("%+v", l)
	}
}

// States that no way leads to, that are there twice, and those with more Looks than they need: all of them have their moves.
func TestOtherAutomata(t *testing.T) {
	g := read("E = E o E; E = n; left o")
	a := built(t, g)
	_, l := likeWords(t, g, a)
	if len(l) != 1 {
		t.Fatal(l)
	}
	twice := clone(a)
	last := len(a.States)
	twice.States = append(twice.States, slices.Clone(a.States[l[0].State]))
	twice.Next = append(twice.Next, slices.Clone(a.Next[l[0].State]))
	_, more := likeWords(t, g, twice)
	if len(more) != 2 || more[1].State != last || more[1].Shift != l[0].Shift || more[1].Won != l[0].Won {
		t.Error(more)
	}
	for s, row := range twice.Next {
		for x, to := range row {
			if to == l[0].State && s == wayTo(g, a, "E o") {
				twice.Next[s][x] = last
			}
		}
	}
	x, more := likeWords(t, g, twice)
	if len(more) != 2 || x.Goto[wayTo(g, a, "E o")][0] != last {
		t.Error(more)
	}
	wide := newMaker(901).from(g, startItem(g), api.Item{Prod: 2, Look: 1})
	_, more = likeWords(t, g, wide)
	if x, _ := likeWords(t, g, wide); len(more) != 1 || x.Moves[wayTo(g, wide, "n")][1] != (api.Move{Do: api.MoveReduce, N: 1}) {
		t.Error(more)
	}
}

// Goto is Next of each rule's symbol: of rules that stand nowhere ahead of a point -1.
func TestGoto(t *testing.T) {
	g := read("S = A b; A = B; B = a A; A = a; C = a; C = C A")
	x, _ := solved(t, g)
	a := built(t, g)
	for row, want := range map[string][]string{
		"":      {"S", "A", "B", "-"},
		"a":     {"-", "a A", "B", "-"},
		"a a":   {"-", "a A", "B", "-"},
		"S":     {"-", "-", "-", "-"},
		"A":     {"-", "-", "-", "-"},
		"A b":   {"-", "-", "-", "-"},
		"a A":   {"-", "-", "-", "-"},
		"a a A": {"-", "-", "-", "-"},
	} {
		s := wayTo(g, a, row)
		for rule, way := range want {
			to := -1
			if way != "-" {
				to = wayTo(g, a, way)
			}
			if x.Goto[s][rule] != to {
				t.Error(row, g.Rules[rule], x.Goto[s][rule], to)
			}
		}
	}
}

// As small as can be.
func TestLeastGrammar(t *testing.T) {
	g := api.Plain{Kinds: []string{"end", "error"}, Precs: make([]api.Prec, 2), Rules: []string{"S"}}
	for range 2 {
		x, l := solved(t, g)
		if len(x.Moves) != 2 || len(x.Moves[1]) != 2 || len(x.Goto) != 2 || x.Goto[0][0] != 1 || x.Moves[1][0].Do != api.MoveAccept || len(l) > 0 {
			t.Error(x, l)
		}
		g.Prods = []api.Prod{{}}
	}
}

// All grammars of two rules and one kind, with at most two productions a rule of at most two symbols, with levels.
func TestAllSmallGrammars(t *testing.T) {
	m := newMaker(902)
	choices := upToTwo(smallProds(2, 3, 4))
	for _, one := range choices {
		for _, other := range choices {
			g := read("S A = ; a")
			g.Rules, g.Prods = []string{"S", "A"}, nil
			for _, r := range one {
				g.Prods = append(g.Prods, api.Prod{Left: 0, Right: r})
			}
			for _, r := range other {
				g.Prods = append(g.Prods, api.Prod{Left: 1, Right: r})
			}
			m.level(&g)
			likeSolve(t, g, built(t, g))
		}
	}
}

// smallProds are all right sides of at most two of the symbols.
func smallProds(symbols ...int) [][]int {
	l := [][]int{nil}
	for _, x := range symbols {
		l = append(l, []int{x})
		for _, y := range symbols {
			l = append(l, []int{x, y})
		}
	}
	return l
}

// upToTwo are all lists of at most two of them, in one order.
func upToTwo(l [][]int) [][][]int {
	made := [][][]int{nil}
	for i, x := range l {
		made = append(made, [][]int{x})
		for _, y := range l[:i+1] {
			made = append(made, [][]int{x, y})
		}
	}
	return made
}

func TestByChance(t *testing.T) {
	m := newMaker(903)
	var often struct{ shift, reduce, err, several, both, accept int }
	for range 3000 {
		g := m.grammar()
		a := m.auto(t, g)
		if len(a.States) > 40 {
			continue
		}
		_, l := likeWords(t, g, a)
		for _, c := range l {
			switch c.Won.Do {
			case api.MoveShift:
				often.shift++
			case api.MoveReduce:
				often.reduce++
			case api.MoveError:
				often.err++
			}
			if len(c.Prods) > 1 {
				often.several++
				if c.Shift >= 0 {
					often.both++
				}
			}
			if slices.Contains(c.Prods, len(g.Prods)) {
				often.accept++
			}
		}
	}
	if often.shift < 1000 || often.reduce < 1000 || often.err < 100 || often.several < 1000 || often.both < 200 || often.accept < 200 {
		t.Errorf("%+v", often)
	}
}

// Automata in which something, wherever, is another one: those that items.Right takes are solved, the others are refused.
func TestTurned(t *testing.T) {
	m := newMaker(904)
	var often [2]int
	for range 6000 {
		g := m.plain(1+m.Intn(4), 1+m.Intn(3), 1+m.Intn(3))
		a := clone(m.auto(t, g))
		if len(a.States) > 15 {
			continue
		}
		for range m.Intn(3) {
			m.turn(g, &a)
		}
		if e := items.Right(g, a); e == api.OK {
			likeWords(t, g, a)
			often[1]++
		} else {
			refused(t, "turned", e, g, a)
			often[0]++
		}
	}
	if often[0] < 1000 || often[1] < 1000 {
		t.Error(often)
	}
}
