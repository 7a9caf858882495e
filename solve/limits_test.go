package solve_test

import (
	"slices"
	"strconv"
	"testing"

	"quoin/api"
	"quoin/solve"
)

// L1 and L2: automata as large as any may be: all calls end, and soon, and tell all that there is.

// plain is a grammar of the kinds k0, k1, .. (2, 3, ..), as many as there may be, and of so many rules (1024, ..). The first one is the start.
func plain(rules int, prods ...api.Prod) api.Plain {
	g := api.Plain{Kinds: []string{"end", "error"}, Precs: make([]api.Prec, api.MaxKinds), Prods: prods}
	for n := range api.MaxKinds - 2 {
		g.Kinds = append(g.Kinds, "k"+strconv.Itoa(n))
	}
	for n := range rules {
		g.Rules = append(g.Rules, "R"+strconv.Itoa(n))
	}
	return g
}

const firstRule = api.MaxKinds

// line is a row of so many symbols: its own kind, and others that are alike in all. By it as many states are met, of one item each.
func line(kind, length int) []int {
	return append([]int{kind}, slices.Repeat([]int{2}, length-1)...)
}

func TestMaxStates(t *testing.T) {
	var prods []api.Prod
	for n := range 63 {
		prods = append(prods, api.Prod{Right: line(3+n, 64)})
	}
	g := plain(100, append(prods, api.Prod{Right: line(66, 62)})...)
	a := built(t, g)
	x, l, e := solve.Solve(g, a)
	if e != api.OK || len(a.States) != api.MaxStates || len(x.Moves) != api.MaxStates || len(x.Goto) != api.MaxStates || len(l) > 0 {
		t.Fatal(len(a.States), len(x.Moves), len(x.Goto), len(l), e)
	}
	want, _ := wordSolve(g, a)
	for s := range x.Moves {
		if !slices.Equal(x.Moves[s], want.Moves[s]) || !slices.Equal(x.Goto[s], want.Goto[s]) || len(x.Moves[s]) != api.MaxKinds || len(x.Goto[s]) != 100 {
			t.Fatal(s, x.Moves[s], x.Goto[s])
		}
	}
	last := api.MaxStates - 1
	if l, e := solve.Moves(g, a, last, api.KindEnd); e != api.OK || !slices.Equal(l, wordMoves(g, a, last, api.KindEnd)) || len(l) != 1 {
		t.Error(l, e)
	}
	if l, e := solve.Moves(g, a, last, api.MaxKinds-1); e != api.OK || len(l) != 0 {
		t.Error(l, e)
	}
	if l, e := solve.Moves(g, a, api.MaxStates, api.KindEnd); e != api.ErrArg || len(l) != 0 {
		t.Error(l, e)
	}
}

// wide is a grammar of rows of a kind of their own, of A, which makes the empty row in 255 ways, and of B, which makes 257 kinds: behind each of these kinds there are as many clashes as kinds of B, of 255 productions each.
func wide(count int) api.Plain {
	var prods []api.Prod
	for n := range count {
		prods = append(prods, api.Prod{Right: []int{500 + n, firstRule + 1, firstRule + 2}})
	}
	prods = append(prods, slices.Repeat([]api.Prod{{Left: 1, Level: 1}}, 255)...)
	for n := range 257 {
		prods = append(prods, api.Prod{Left: 2, Right: []int{2 + n}})
	}
	g := plain(3, prods...)
	for n := range 257 {
		g.Precs[2+n] = api.Prec{Level: 1, Assoc: api.AssocNot}
	}
	return g
}

func TestManyClashes(t *testing.T) {
	const count = 15
	g := wide(count)
	a := built(t, g)
	x, l, e := solve.Solve(g, a)
	if e != api.OK || len(l) != count*257 || solve.Settled(l...) {
		t.Fatal(len(l), e)
	}
	var all []int
	for prod := range 255 {
		all = append(all, count+prod)
	}
	for n, c := range l {
		won := api.Move{Do: api.MoveReduce, N: count}
		if c.State != a.Next[0][500+n/257] || c.Kind != 2+n%257 || c.Shift != -1 || c.Settled || c.Won != won || x.Moves[c.State][c.Kind] != won || !slices.Equal(c.Prods, all) {
			t.Fatal(c)
		}
	}
	lines, e := solve.Lines(g, l...)
	if e != api.OK || len(lines) != len(l) || lines[0] != wordLine(g, l[0]) || lines[len(l)-1] != wordLine(g, l[len(l)-1]) {
		t.Error(len(lines), e)
	}
	if moves, e := solve.Moves(g, a, l[0].State, 2); e != api.OK || !slices.Equal(moves, wordMoves(g, a, l[0].State, 2)) || len(moves) != 255 {
		t.Error(len(moves), e)
	}
}

// As many rules and productions as may be, all of which lead to one another.
func TestMaxProds(t *testing.T) {
	var prods []api.Prod
	for n := range api.MaxProds {
		prods = append(prods, api.Prod{Left: n / 2, Right: []int{firstRule + (n/2+1+n%2)%api.MaxRules}, Level: n})
	}
	g := plain(api.MaxRules, prods...)
	a := built(t, g)
	x, l, e := solve.Solve(g, a)
	if e != api.OK || len(x.Moves) != len(a.States) || len(l) != api.MaxRules {
		t.Fatal(len(a.States), len(l), e)
	}
	for _, c := range l {
		want, is := wordClash(g, a, c.State, c.Kind)
		if !is || told(c) != told(want) {
			t.Fatal(c, want)
		}
	}
}
