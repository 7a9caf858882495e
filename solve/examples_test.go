package solve_test

import (
	"slices"
	"testing"

	"quoin/api"
	"quoin/items"
	"quoin/solve"
)

// The chapter's section Examples.

// sums is E = E plus E (0), E times E (1), num (2): the kinds num, plus, times are 2 to 4, the rule E is 5.
func sums(plus, times api.Prec) api.Plain {
	return api.Plain{
		Kinds: []string{"end", "error", "num", "plus", "times"},
		Precs: []api.Prec{{}, {}, {}, plus, times},
		Rules: []string{"E"},
		Prods: []api.Prod{{Right: []int{5, 3, 5}, Level: plus.Level}, {Right: []int{5, 4, 5}, Level: times.Level}, {Right: []int{2}}},
	}
}

const num, plus, times = 2, 3, 4

func TestExamples(t *testing.T) {
	left := func(level int) api.Prec { return api.Prec{Level: level, Assoc: api.AssocLeft} }
	g := sums(left(1), left(2))
	if told(g) != told(read("E = E plus E; E = E times E; E = num; left plus; left times")) {
		t.Fatal("the test is wrong")
	}
	a, e := items.Build(g)
	if e != api.OK {
		t.Fatal(e)
	}
	behind := wayTo(g, a, "E plus E")
	shift := func(kind int) api.Move { return api.Move{Do: api.MoveShift, N: a.Next[behind][kind]} }
	reduce := api.Move{Do: api.MoveReduce, N: 0}

	x, l := likeWords(t, g, a)
	if len(l) != 4 || !solve.Settled(l...) || solve.Free(l...) {
		t.Error(l)
	}
	if row := x.Moves[behind]; row[times] != shift(times) || row[plus] != reduce || row[api.KindEnd] != reduce || row[num] != (api.Move{}) {
		t.Error(row)
	}

	x, l = likeWords(t, sums(api.Prec{}, api.Prec{}), a)
	if len(l) != 4 || solve.Free(l...) {
		t.Error(l)
	}
	for _, c := range l {
		if c.Settled || c.Shift < 0 || c.Won != (api.Move{Do: api.MoveShift, N: c.Shift}) || solve.Settled(c) {
			t.Error(c)
		}
	}
	if row := x.Moves[behind]; row[times] != shift(times) || row[plus] != shift(plus) || row[api.KindEnd] != reduce {
		t.Error(row)
	}

	x, l = likeWords(t, sums(api.Prec{Level: 1, Assoc: api.AssocNot}, left(2)), a)
	if row := x.Moves[behind]; row[plus] != (api.Move{}) || row[times] != shift(times) || !solve.Settled(l...) || len(l) != 4 {
		t.Error(row, l)
	}
}

// The row of a table, in all: where there is a state, and where there is none.
func TestWholeTable(t *testing.T) {
	g := read("S = S a; S = a")
	x, l := solved(t, g)
	move := func(do, n int) api.Move { return api.Move{Do: do, N: n} }
	want := api.Table{
		Moves: [][]api.Move{
			{move(0, 0), move(0, 0), move(api.MoveShift, 1)},
			{move(api.MoveReduce, 1), move(0, 0), move(api.MoveReduce, 1)},
			{move(api.MoveAccept, 0), move(0, 0), move(api.MoveShift, 3)},
			{move(api.MoveReduce, 0), move(0, 0), move(api.MoveReduce, 0)},
		},
		Goto: [][]int{{2}, {-1}, {-1}, {-1}},
	}
	if told(x) != told(want) || len(l) > 0 {
		t.Error(x, l)
	}
}

// Clashes come by state, then by kind, with all that they have.
func TestWholeClashes(t *testing.T) {
	g := read("E = E p E; E = E q E; E = n; left p; right q")
	a := built(t, g)
	_, l := likeWords(t, g, a)
	p, q := symbols(g, "p")[0], symbols(g, "q")[0]
	one, other := wayTo(g, a, "E p E"), wayTo(g, a, "E q E")
	clash := func(state, kind, prod int, won api.Move) api.Clash {
		return api.Clash{State: state, Kind: kind, Shift: a.Next[state][kind], Prods: []int{prod}, Won: won, Settled: true}
	}
	reduce := func(prod int) api.Move { return api.Move{Do: api.MoveReduce, N: prod} }
	shift := func(state int) api.Move { return api.Move{Do: api.MoveShift, N: a.Next[state][q]} }
	want := []api.Clash{clash(one, p, 0, reduce(0)), clash(one, q, 0, shift(one)), clash(other, p, 1, reduce(1)), clash(other, q, 1, shift(other))}
	if told(l) != told(want) || one > other || p > q {
		t.Errorf("%+v, not %+v", l, want)
	}
	lines, e := solve.Lines(g, l...)
	if e != api.OK || !slices.Equal(lines, []string{
		"state 5, p: shift 3, reduce 0: reduce 0 (settled)",
		"state 5, q: shift 4, reduce 0: shift 4 (settled)",
		"state 6, p: shift 3, reduce 1: reduce 1 (settled)",
		"state 6, q: shift 4, reduce 1: shift 4 (settled)",
	}) {
		t.Errorf("%q, %v", lines, e)
	}
}
