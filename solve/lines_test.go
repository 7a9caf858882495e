package solve_test

import (
	"math"
	"testing"

	"quoin/api"
	"quoin/solve"
)

// L2: Free, Settled and Lines.

func TestFreeAndSettled(t *testing.T) {
	yes, no := api.Clash{Settled: true, Shift: 3, Prods: []int{1}}, api.Clash{Shift: 3, Prods: []int{1}}
	for _, c := range []struct {
		l               []api.Clash
		isFree, settled bool
	}{
		{nil, true, true},
		{[]api.Clash{}, true, true},
		{[]api.Clash{yes}, false, true},
		{[]api.Clash{no}, false, false},
		{[]api.Clash{yes, yes, yes}, false, true},
		{[]api.Clash{no, no}, false, false},
		{[]api.Clash{no, yes}, false, false},
		{[]api.Clash{yes, no}, false, false},
		{[]api.Clash{yes, no, yes}, false, false},
		{[]api.Clash{{}}, false, false},
		{[]api.Clash{{Settled: true}}, false, true},
		{[]api.Clash{{State: -1, Kind: math.MaxInt, Prods: []int{math.MinInt}, Won: api.Move{Do: -1}, Settled: true}}, false, true},
	} {
		if solve.Free(c.l...) != c.isFree || solve.Settled(c.l...) != c.settled {
			t.Error(c.l, solve.Free(c.l...), solve.Settled(c.l...))
		}
	}
	if !solve.Free() || !solve.Settled() {
		t.Error("none at all")
	}
}

// lineIs holds a clash's line, alone and among others.
func lineIs(t *testing.T, g api.Plain, want string, c api.Clash) {
	t.Helper()
	if l, e := solve.Lines(g, c); e != api.OK || len(l) != 1 || l[0] != want {
		t.Errorf("%q, %v, not %q", l, e, want)
	}
	other := api.Clash{State: 1, Shift: -1, Prods: []int{0, 1}}
	if l, e := solve.Lines(g, other, c, c, other); e != api.OK || len(l) != 4 || l[0] != l[3] || l[1] != want || l[2] != want || l[0] != "state 1, end: reduce 0, reduce 1: error" {
		t.Errorf("%q, %v, not %q", l, e, want)
	}
	likeTold(t, g, []api.Clash{c, other, c})
}

func TestLines(t *testing.T) {
	g := sums(api.Prec{}, api.Prec{}) // productions 0 to 2; 3 is the start's
	shift := func(n int) api.Move { return api.Move{Do: api.MoveShift, N: n} }
	reduce := func(n int) api.Move { return api.Move{Do: api.MoveReduce, N: n} }
	accept := api.Move{Do: api.MoveAccept}
	if l, e := solve.Lines(g); e != api.OK || len(l) != 0 {
		t.Error(l, e)
	}
	for want, c := range map[string]api.Clash{
		"state 3, plus: shift 5, reduce 0, accept: reduce 0 (settled)":          {State: 3, Kind: plus, Shift: 5, Prods: []int{0, 3}, Won: reduce(0), Settled: true},
		"state 7, times: shift 12, reduce 0: shift 12":                          {State: 7, Kind: times, Shift: 12, Prods: []int{0}, Won: shift(12)},
		"state 7, times: shift 12, reduce 0: shift 12 (settled)":                {State: 7, Kind: times, Shift: 12, Prods: []int{0}, Won: shift(12), Settled: true},
		"state 7, times: shift 12, reduce 1: error (settled)":                   {State: 7, Kind: times, Shift: 12, Prods: []int{1}, Settled: true},
		"state 7, times: shift 12, reduce 1: error":                             {State: 7, Kind: times, Shift: 12, Prods: []int{1}, Won: api.Move{N: 9}},
		"state 0, end: reduce 0, reduce 1, reduce 2: reduce 0":                  {Shift: -1, Prods: []int{0, 1, 2}, Won: reduce(0)},
		"state 0, end: reduce 1, accept: reduce 1":                              {Shift: -1, Prods: []int{1, 3}, Won: reduce(1)},
		"state 0, end: accept: accept":                                          {Shift: -1, Prods: []int{3}, Won: accept},
		"state 0, end: reduce 1, accept: accept (settled)":                      {Shift: -1, Prods: []int{1, 3}, Won: accept, Settled: true},
		"state 4095, error: shift 0, reduce 2, reduce 2: shift 0":               {State: 4095, Kind: api.KindError, Shift: 0, Prods: []int{2, 2}, Won: shift(0)},
		"state 1, num: shift 2, accept, reduce 2, reduce 0, accept: accept":     {State: 1, Kind: num, Shift: 2, Prods: []int{3, 2, 0, 3}, Won: accept},
		"state 1, num: shift 2: shift 2":                                        {State: 1, Kind: num, Shift: 2, Won: shift(2)},
		"state 1, num: : error":                                                 {State: 1, Kind: num, Shift: -1},
		"state -1, num: reduce 0: shift -4":                                     {State: -1, Kind: num, Shift: -9, Prods: []int{0}, Won: shift(-4)},
		"state -9223372036854775808, num: reduce 0: reduce 9223372036854775807": {State: math.MinInt, Kind: num, Shift: math.MinInt, Prods: []int{0}, Won: reduce(math.MaxInt)},
		"state 9223372036854775807, num: shift 9223372036854775807: accept":     {State: math.MaxInt, Kind: num, Shift: math.MaxInt, Won: api.Move{Do: api.MoveAccept, N: 7}},
	} {
		lineIs(t, g, want, c)
	}
}

// Of a Kind or a production that is none of the grammar's, wherever it stands.
func TestLinesOfNone(t *testing.T) {
	g := sums(api.Prec{}, api.Prec{})
	good := api.Clash{Kind: times, Prods: []int{0, 3}}
	none := []api.Clash{}
	for _, kind := range []int{-1, -2, math.MinInt, 5, 6, math.MaxInt} {
		none = append(none, api.Clash{Kind: kind}, api.Clash{Kind: kind, Prods: []int{0}}, api.Clash{Kind: kind, Prods: []int{4}})
	}
	for _, prod := range []int{-1, -2, math.MinInt, 4, 5, math.MaxInt} {
		none = append(none, api.Clash{Prods: []int{prod}}, api.Clash{Kind: times, Prods: []int{0, prod}}, api.Clash{Kind: times, Prods: []int{prod, 3}}, api.Clash{Prods: []int{0, 1, prod, 2}})
	}
	for _, c := range none {
		for _, l := range [][]api.Clash{{c}, {good, c}, {c, good}, {good, good, c, good}, {c, c}} {
			if lines, e := solve.Lines(g, l...); e != api.ErrArg || len(lines) > 0 {
				t.Error(l, lines, e)
			}
		}
	}
	for kind := range g.Kinds {
		for prod := range len(g.Prods) + 1 {
			if lines, e := solve.Lines(g, good, api.Clash{Kind: kind, Prods: []int{prod}}); e != api.OK || len(lines) != 2 {
				t.Error(kind, prod, lines, e)
			}
		}
	}
	bare := api.Plain{Kinds: []string{"end", "error"}, Precs: make([]api.Prec, 2), Rules: []string{"S"}}
	for prod, want := range map[int]api.Errno{-1: api.ErrArg, 0: api.OK, 1: api.ErrArg} {
		if _, e := solve.Lines(bare, api.Clash{Prods: []int{prod}}); e != want {
			t.Error(prod, e)
		}
	}
}

func TestLinesByChance(t *testing.T) {
	m := newMaker(905)
	for range 3000 {
		g := m.grammar()
		var l []api.Clash
		for range m.Intn(5) {
			c := api.Clash{State: m.Intn(3000), Kind: m.Intn(len(g.Kinds)), Shift: m.Intn(9) - 3, Won: api.Move{Do: m.Intn(4), N: m.Intn(20)}, Settled: m.Intn(2) == 0}
			for range m.Intn(4) {
				c.Prods = append(c.Prods, m.Intn(len(g.Prods)+1))
			}
			l = append(l, c)
		}
		likeTold(t, g, l)
	}
}
