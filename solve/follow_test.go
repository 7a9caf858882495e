package solve_test

import (
	"slices"
	"testing"

	"quoin/api"
	"quoin/derive"
	"quoin/pager"
	"quoin/solve"
)

// What follows, L3 to L5.

// outcome is how a parse ends: its tree, if it accepts; how many kinds it took; whether it makes too many moves.
type outcome struct {
	tree              api.Deriv
	at                int
	isTaken, isTooFar bool
}

// parse goes by a table along a row.
func parse(g api.Plain, x api.Table, row ...int) outcome {
	row = append(slices.Clone(row), api.KindEnd)
	stack, trees := []int{0}, []api.Deriv(nil)
	var o outcome
	for range 500 {
		switch m := x.Moves[stack[len(stack)-1]][row[o.at]]; m.Do {
		case api.MoveError:
			return o
		case api.MoveAccept:
			o.tree, o.isTaken = trees[0], true
			return o
		case api.MoveShift:
			stack, trees = append(stack, m.N), append(trees, api.Deriv{Prod: -1, Tok: o.at})
			o.at++
		case api.MoveReduce:
			p := g.Prods[m.N]
			ahead := len(trees) - len(p.Right)
			d := api.Deriv{Prod: m.N, Kids: slices.Clone(trees[ahead:])}
			stack, trees = stack[:ahead+1], append(trees[:ahead], d)
			stack = append(stack, x.Goto[stack[ahead]][p.Left])
		}
	}
	o.isTooFar = true
	return o
}

// rowsOf are all rows of a grammar's kinds, the end left out, that are at most so long.
func rowsOf(g api.Plain, most int) [][]int {
	l := [][]int{nil}
	for at := 0; at < len(l) && len(l[at]) < most; at++ {
		for kind := 1; kind < len(g.Kinds); kind++ {
			l = append(l, append(slices.Clone(l[at]), kind))
		}
	}
	return l
}

// Without clashes no row has two derivations; and parses by the table take those rows that have one, with it.
func TestUnambiguous(t *testing.T) {
	m := newMaker(920)
	var often struct{ free, not, one, none, twice int }
	for range 6000 {
		g := m.plain(1+m.Intn(4), 1+m.Intn(3), 1+m.Intn(4))
		x, l, e := solve.Solve(g, built(t, g))
		if e != api.OK {
			t.Fatal(text(g), e)
		}
		isFree := solve.Free(l...)
		if isFree {
			often.free++
		} else {
			often.not++
		}
		for _, row := range rowsOf(g, 7-len(g.Kinds)) {
			n, e := derive.Count(g, row...)
			if e != api.OK || isFree && n > 1 {
				t.Fatal(text(g), row, n, e)
			}
			if n == 2 {
				often.twice++
			}
			if !isFree {
				continue
			}
			o := parse(g, x, row...)
			if o.isTooFar {
				continue
			}
			if o.isTaken != (n == 1) || o.isTaken && !derive.Check(g, o.tree, row...) {
				t.Fatal(text(g), row, n, o)
			}
			if n == 1 {
				often.one++
			} else {
				often.none++
			}
		}
	}
	if often.free < 500 || often.not < 500 || often.one < 1000 || often.none < 1000 || often.twice < 500 {
		t.Errorf("%+v", often)
	}
}

// Grammars that are known to be ambiguous have clashes, and so have some that are not, in which more than one kind ahead says what is to be done; the others have none.
func TestKnownGrammars(t *testing.T) {
	for grammar, isFree := range map[string]bool{
		"E = E p T; E = T; T = T t F; T = F; F = o E c; F = i":     true,
		"S = L e R; S = R; L = s R; L = i; R = L":                  true,
		"S = a A d; S = b B d; S = a B e; S = b A e; A = c; B = c": true,
		"S = a S a; S = b S b; S = c":                              true,
		"E = E p E; E = n":                                         false,
		"E = E p E; E = n; left p":                                 false, // it is settled, and a clash
		"S = i S e S; S = i S; S = a":                              false,
		"S = a S a; S = a":                                         false,
		"S = a S a; S =":                                           false,
		"S = S; S = a":                                             false,
		"S = S S; S = a":                                           false,
		"S = A S; S = a; A =":                                      false,
		"S = A b; S = B c; A = A a; A = a; B = B a; B = a":         false,
	} {
		if _, l := solved(t, read(grammar)); solve.Free(l...) != isFree {
			t.Error(grammar, l)
		}
	}
}

// Without clashes the table has at each kind the one thing that can be done, and else none; with some, it has that wherever there is none.
func TestOneThingStands(t *testing.T) {
	m := newMaker(921)
	free := 0
	for range 2500 {
		g := m.grammar()
		a := m.auto(t, g)
		if len(a.States) > 15 {
			continue
		}
		x, l, e := solve.Solve(g, a)
		if e != api.OK {
			t.Fatal(text(g), e)
		}
		if len(l) == 0 {
			free++
		}
		clashes := 0
		for s := range a.States {
			for kind := range g.Kinds {
				moves, e := solve.Moves(g, a, s, kind)
				if len(moves) > 1 {
					clashes++
				} else if e != api.OK || x.Moves[s][kind] != slices.Concat(moves, []api.Move{{}})[0] {
					t.Fatal(text(g), s, kind, moves, x.Moves[s][kind], e)
				}
			}
		}
		if clashes != len(l) {
			t.Fatal(text(g), clashes, l)
		}
	}
	if free < 300 {
		t.Error("too few:", free)
	}
}

// otherOrder is a grammar with other levels, that have the same order.
func (m *maker) otherOrder(g api.Plain) api.Plain {
	levels := []int{0}
	for range 4 {
		levels = append(levels, levels[len(levels)-1]+1+m.Intn(5)*m.Intn(1<<20))
	}
	g = clone(g)
	for kind, p := range g.Precs {
		g.Precs[kind].Level = levels[p.Level]
	}
	for prod, p := range g.Prods {
		g.Prods[prod].Level = levels[p.Level]
	}
	return g
}

// Other levels in the same order, with the same Assocs: the same table, and the same clashes.
func TestOrderOfLevels(t *testing.T) {
	m := newMaker(922)
	settled := 0
	for range 3000 {
		g := m.grammar()
		a := m.auto(t, g)
		x, l, e := solve.Solve(g, a)
		other, k, eOther := solve.Solve(m.otherOrder(g), a)
		if e != api.OK || eOther != api.OK || told(x) != told(other) || told(l) != told(k) {
			t.Fatal(text(g), x, other, l, k, e, eOther)
		}
		for _, c := range l {
			if c.Settled {
				settled++
			}
		}
	}
	if settled < 1000 {
		t.Error("too few:", settled)
	}
}

// Where no clash is, levels turn nothing: whatever levels there are, the tables are alike in all that is no clash, and so are the clashes but for what stands of them.
func TestLevelsTurnClashesAlone(t *testing.T) {
	m := newMaker(923)
	free, turned := 0, 0
	for range 3000 {
		g := m.grammar()
		a := m.auto(t, g)
		x, l, e := solve.Solve(g, a)
		m.level(&g)
		other, k, eOther := solve.Solve(g, a)
		if e != api.OK || eOther != api.OK || len(l) != len(k) {
			t.Fatal(text(g), l, k, e, eOther)
		}
		if len(l) == 0 {
			free++
		} else if told(x) != told(other) {
			turned++
		}
		for n, c := range l {
			x.Moves[c.State][c.Kind], other.Moves[c.State][c.Kind] = api.Move{}, api.Move{}
			c.Won, c.Settled, k[n].Won, k[n].Settled = api.Move{}, false, api.Move{}, false
			if told(c) != told(k[n]) {
				t.Fatal(text(g), c, k[n])
			}
		}
		if told(x) != told(other) {
			t.Fatal(text(g), x, other)
		}
	}
	if free < 500 || turned < 500 {
		t.Error(free, turned)
	}
}

// What precedence says is seen in trees: which of two operators stands above, and that like ones of none do not stand beside each other.
func TestTreesByPrecedence(t *testing.T) {
	g := read("E = E p E; E = E t E; E = E u E; E = E q E; E = m E; E = n; none q; left p; left t; right u; left m")
	x, l := solved(t, g)
	if solve.Free(l...) || !solve.Settled(l...) {
		t.Fatal(l)
	}
	for row, want := range map[string]string{
		"n":             "n",
		"n p n p n":     "((n p n) p n)",
		"n t n t n":     "((n t n) t n)",
		"n u n u n":     "(n u (n u n))",
		"n p n t n":     "(n p (n t n))",
		"n t n p n":     "((n t n) p n)",
		"n u n t n":     "((n u n) t n)",
		"n t n u n":     "(n t (n u n))",
		"n q n":         "(n q n)",
		"n p n q n t n": "((n p n) q (n t n))",
		"n q n q n":     "3",
		"n q n p n q n": "5",
		"m n p n":       "((m n) p n)",
		"n u m n u n":   "(n u ((m n) u n))",
		"n p":           "2",
		"n n":           "1",
	} {
		o := parse(g, x, symbols(g, row)...)
		got := told(o.at)
		if o.isTaken {
			got = treeText(g, o.tree)
		}
		if got != want {
			t.Errorf("%s: %s, not %s", row, got, want)
		}
	}
}

// treeText is a tree by its kinds, with parentheses where a production has several symbols.
func treeText(g api.Plain, d api.Deriv) string {
	right := g.Prods[d.Prod].Right
	w := ""
	for n, k := range d.Kids {
		if n > 0 {
			w += " "
		}
		if k.Prod == -1 {
			w += g.Kinds[right[n]]
		} else {
			w += treeText(g, k)
		}
	}
	if len(right) > 1 {
		w = "(" + w + ")"
	}
	return w
}

// Chapter 15's promise, by the tables that are made here: where the canonical automaton has no clash, the merged one has none, and parses end alike.
func TestMergedTables(t *testing.T) {
	m := newMaker(924)
	free := 0
	for range 1500 {
		g := m.grammar()
		merged, e := pager.Build(g)
		x, l, eOne := solve.Solve(g, built(t, g))
		y, k, eMerged := solve.Solve(g, merged)
		if e != api.OK || eOne != api.OK || eMerged != api.OK {
			t.Fatal(text(g), e, eOne, eMerged)
		}
		if !solve.Free(l...) {
			continue
		}
		free++
		if !solve.Free(k...) {
			t.Fatal(text(g), k)
		}
		for _, row := range rowsOf(g, 6-len(g.Kinds)) {
			if one, other := parse(g, x, row...), parse(g, y, row...); told(one) != told(other) {
				t.Fatal(text(g), row, one, other)
			}
		}
	}
	if free < 200 {
		t.Error("too few:", free)
	}
}
