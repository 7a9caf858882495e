package derive_test

import (
	"math"
	"slices"
	"testing"

	"quoin/api"
	"quoin/derive"
)

// What all calls but Check and Yield answer first: ErrPlain, then ErrRow, then ErrChart; and Check and Yield of a grammar that may not be. DOC.md's R1 and R3.

// refusedRow holds what the calls that take a row answer, all with one error and nothing else.
func refusedRow(t *testing.T, what string, want api.Errno, g api.Plain, row ...int) {
	t.Helper()
	if n, e := derive.Count(g, row...); n != 0 || e != want {
		t.Error(what, "Count:", n, e)
	}
	if d, e := derive.Tree(g, row...); told(d) != told(api.Deriv{}) || e != want {
		t.Error(what, "Tree:", d, e)
	}
	if n, e := derive.Viable(g, row...); n != 0 || e != want {
		t.Error(what, "Viable:", n, e)
	}
	if n, e := derive.Parts(g, row...); n != 0 || e != want {
		t.Error(what, "Parts:", n, e)
	}
}

// refused holds all calls at a grammar that may not be.
func refused(t *testing.T, what string, g api.Plain, d api.Deriv) {
	t.Helper()
	long := slices.Repeat([]int{2}, api.MaxToks+1)
	for _, row := range [][]int{nil, {2}, {2, 3}, {0}, {-1}, {math.MaxInt}, long, append(long, -1)} {
		refusedRow(t, what, api.ErrPlain, g, row...)
		if len(row) <= 2 && derive.Check(g, d, row...) {
			t.Error(what, "Check:", row)
		}
	}
	if l := derive.Yield(g, d); len(l) > 0 {
		t.Error(what, "Yield:", l)
	}
	for _, prods := range [][]int{nil, {0}, {-1, 5}} {
		for _, most := range []int{-1, 0, 5} {
			if row, d, e := derive.Sentence(g, prods, most); len(row) > 0 || told(d) != told(api.Deriv{}) || e != api.ErrPlain {
				t.Error(what, "Sentence:", row, d, e)
			}
		}
	}
}

// turnings are grammars that may not be by one thing each, beside productions by which a b is derived.
func turnings() map[string]func(g *api.Plain) {
	return map[string]func(g *api.Plain){
		"no kinds":            func(g *api.Plain) { g.Kinds, g.Precs = nil, nil },
		"a kind twice":        func(g *api.Plain) { g.Kinds[3] = "a" },
		"a kind too few":      func(g *api.Plain) { g.Kinds = g.Kinds[:3] },
		"a Prec too many":     func(g *api.Plain) { g.Precs = append(g.Precs, api.Prec{}) },
		"a level of error":    func(g *api.Plain) { g.Precs[1] = api.Prec{Level: 1, Assoc: api.AssocLeft} },
		"an Assoc alone":      func(g *api.Plain) { g.Precs[2].Assoc = api.AssocLeft },
		"no rules":            func(g *api.Plain) { g.Rules, g.Prods = nil, nil },
		"a rule twice":        func(g *api.Plain) { g.Rules[1] = "S" },
		"a rule without name": func(g *api.Plain) { g.Rules[1] = "" },
		"no such start":       func(g *api.Plain) { g.Start = 2 },
		"a start below 0":     func(g *api.Plain) { g.Start = -1 },
		"no such Left":        func(g *api.Plain) { g.Prods[1].Left = 2 },
		"a Left below 0":      func(g *api.Plain) { g.Prods[1].Left = -1 },
		"the end in Right":    func(g *api.Plain) { g.Prods[1].Right = []int{0} },
		"no such symbol":      func(g *api.Plain) { g.Prods[1].Right = []int{6} },
		"a symbol below 0":    func(g *api.Plain) { g.Prods[1].Right = []int{-1} },
		"65 symbols":          func(g *api.Plain) { g.Prods[1].Right = slices.Repeat([]int{2}, 65) },
		"4097 productions":    func(g *api.Plain) { g.Prods = slices.Repeat(g.Prods, 2049)[:4097] },
		"a Level below 0":     func(g *api.Plain) { g.Prods[1].Level = -1 },
		"no such action":      func(g *api.Plain) { g.Prods[1].Act.Kind = 9 },
		"no such pick":        func(g *api.Plain) { g.Prods[1].Act = api.Act{Kind: api.ActPick, At: 1} },
	}
}

func TestNoGrammar(t *testing.T) {
	d := api.Deriv{Prod: 0, Kids: []api.Deriv{{Prod: 1, Kids: []api.Deriv{{Prod: -1}}}, {Prod: -1, Tok: 1}}}
	if g := read("S = A b; A = a"); !derive.Check(g, d, 2, 3) || len(derive.Yield(g, d)) != 2 {
		t.Fatal("the test is wrong")
	}
	for what, turn := range turnings() {
		g := read("S = A b; A = a")
		turn(&g)
		refused(t, what, g, d)
	}
	refused(t, "the zero one", api.Plain{}, api.Deriv{})
	refused(t, "rules alone", api.Plain{Rules: []string{"S"}}, api.Deriv{})
	refused(t, "an empty production alone", api.Plain{Rules: []string{"S"}, Prods: []api.Prod{{}}}, api.Deriv{})
}

// As little as a grammar can be.
func TestLeastGrammar(t *testing.T) {
	g := api.Plain{Kinds: []string{"end", "error"}, Precs: make([]api.Prec, 2), Rules: []string{"S"}}
	for _, row := range [][]int{nil, {1}, {1, 1}} {
		likeWords(t, g, row...)
	}
	g.Prods = []api.Prod{{}}
	for _, row := range [][]int{nil, {1}, {1, 1}} {
		likeWords(t, g, row...)
	}
}

// Numbers that are no kind, and the end, wherever in the row; what is derived is not looked at.
func TestNoRow(t *testing.T) {
	g := read("S = a S; S = b; S = A; A")
	for _, wrong := range []int{math.MinInt, -3, -1, api.KindEnd, 4, 5, 6, 7, 1 << 20, math.MaxInt} {
		for _, row := range [][]int{{wrong}, {wrong, 2}, {2, wrong}, {2, wrong, 3}, {3, 3, wrong}, {wrong, wrong}} {
			refusedRow(t, told(row), api.ErrRow, g, row...)
		}
	}
	for _, kind := range []int{api.KindError, 2, 3} {
		for _, row := range [][]int{{kind}, {kind, 2}, {2, kind}, {2, kind, 3}} {
			if _, e := derive.Count(g, row...); e != api.OK {
				t.Error(row, e)
			}
			likeWords(t, g, row...)
		}
	}
}

// error is a kind like others, where the grammar has it and where it has not.
func TestError(t *testing.T) {
	counts(t, "S = error a; S = a", "error a: 1", "a: 1", "error: 0", "a error: 0")
	counts(t, "S = a", "error: 0", "a: 1")
	viable(t, "S = error a; S = a", "error a", "error | error", "a | error", "a")
}

func TestTooManyTokens(t *testing.T) {
	g := read("S = b; a")
	row := slices.Repeat([]int{2}, api.MaxToks)
	if n, e := derive.Count(g, row...); n != 0 || e != api.OK {
		t.Error(n, e)
	}
	if d, e := derive.Tree(g, row...); e != api.ErrNone || told(d) != told(api.Deriv{}) {
		t.Error(d, e)
	}
	if n, e := derive.Viable(g, row...); n != 0 || e != api.OK {
		t.Error(n, e)
	}
	if n, e := derive.Parts(g, row...); n != 0 || e != api.OK {
		t.Error(n, e)
	}
	refusedRow(t, "one more", api.ErrChart, g, append(row, 2)...)
	refusedRow(t, "many more", api.ErrChart, g, slices.Repeat([]int{2}, 3*api.MaxToks)...)
}

// A row that is both wrong and too long, or whose chart is too large, is wrong.
func TestWhichErrorIsFirst(t *testing.T) {
	g := read("S = S S; S = a")
	long := slices.Repeat([]int{2}, api.MaxToks+1)
	for _, wrong := range []int{-1, 0, 3, 4} {
		for _, at := range []int{0, 1, api.MaxToks - 1, api.MaxToks} {
			row := slices.Clone(long)
			row[at] = wrong
			refusedRow(t, "wrong and too long", api.ErrRow, g, row...)
			refusedRow(t, "wrong, with a great chart", api.ErrRow, g, append(slices.Clone(long[:2000]), wrong)...)
		}
	}
	refusedRow(t, "a great chart", api.ErrChart, g, long[:2000]...)
	g.Start = 1
	refusedRow(t, "no grammar", api.ErrPlain, g, append(long, -1)...)
}
