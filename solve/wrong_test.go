package solve_test

import (
	"math"
	"slices"
	"testing"

	"quoin/api"
	"quoin/items"
	"quoin/solve"
)

// L1 and L2: what may not be, a grammar, an automaton, a state or a kind, at each of the calls, and which error is first. DOC.md's R1, R2 and R3.

// turnings are grammars that may not be by one thing each, beside S = A b; A = a.
func turnings() map[string]func(g *api.Plain) {
	return map[string]func(g *api.Plain){
		"no kinds":            func(g *api.Plain) { g.Kinds, g.Precs = nil, nil },
		"a kind twice":        func(g *api.Plain) { g.Kinds[3] = "a" },
		"a kind too few":      func(g *api.Plain) { g.Kinds = g.Kinds[:3] },
		"a Prec too few":      func(g *api.Plain) { g.Precs = g.Precs[:3] },
		"a Prec too many":     func(g *api.Plain) { g.Precs = append(g.Precs, api.Prec{}) },
		"a level of the end":  func(g *api.Plain) { g.Precs[0] = api.Prec{Level: 1, Assoc: api.AssocLeft} },
		"a level of error":    func(g *api.Plain) { g.Precs[1] = api.Prec{Level: 1, Assoc: api.AssocLeft} },
		"an Assoc alone":      func(g *api.Plain) { g.Precs[2].Assoc = api.AssocLeft },
		"a level alone":       func(g *api.Plain) { g.Precs[2].Level = 1 },
		"a level below 0":     func(g *api.Plain) { g.Precs[2] = api.Prec{Level: -1, Assoc: api.AssocLeft} },
		"no such Assoc":       func(g *api.Plain) { g.Precs[2] = api.Prec{Level: 1, Assoc: 4} },
		"no rules":            func(g *api.Plain) { g.Rules, g.Prods = nil, nil },
		"a rule twice":        func(g *api.Plain) { g.Rules[1] = "S" },
		"a rule without name": func(g *api.Plain) { g.Rules[1] = "" },
		"no such start":       func(g *api.Plain) { g.Start = 2 },
		"a start below 0":     func(g *api.Plain) { g.Start = -1 },
		"a start beyond all":  func(g *api.Plain) { g.Start = math.MaxInt },
		"no such Left":        func(g *api.Plain) { g.Prods[1].Left = 2 },
		"a Left below 0":      func(g *api.Plain) { g.Prods[1].Left = -1 },
		"the end in Right":    func(g *api.Plain) { g.Prods[1].Right = []int{0} },
		"no such symbol":      func(g *api.Plain) { g.Prods[1].Right = []int{6} },
		"a symbol below 0":    func(g *api.Plain) { g.Prods[1].Right = []int{-1} },
		"65 symbols":          func(g *api.Plain) { g.Prods[1].Right = slices.Repeat([]int{2}, 65) },
		"4097 productions":    func(g *api.Plain) { g.Prods = slices.Repeat(g.Prods, 2049)[:4097] },
		"a Level below 0":     func(g *api.Plain) { g.Prods[1].Level = -1 },
		"no such action":      func(g *api.Plain) { g.Prods[1].Act.Kind = 9 },
		"no such pick":        func(g *api.Plain) { g.Prods[1].Act = api.Act{Kind: api.ActPick, At: 1} },
	}
}

// outside are numbers that are none of so many.
func outside(count int) []int {
	return []int{math.MinInt, -count, -2, -1, count, count + 1, 2*count + 2, 1 << 20, math.MaxInt}
}

// refused holds the calls that take an automaton at an error, and nothing else, whatever state and kind there are.
func refused(t *testing.T, what string, want api.Errno, g api.Plain, a api.Auto) {
	t.Helper()
	if x, l, e := solve.Solve(g, a); e != want || told(x) != told(api.Table{}) || len(l) > 0 {
		t.Error(what, "Solve:", x, l, e)
	}
	for _, s := range append(outside(len(a.States)), 0, len(a.States)-1) {
		for _, kind := range append(outside(len(g.Kinds)), 0, len(g.Kinds)-1) {
			if l, e := solve.Moves(g, a, s, kind); e != want || len(l) > 0 {
				t.Error(what, s, kind, "Moves:", l, e)
			}
		}
	}
}

// refusedLines holds Lines at an error, and nothing else.
func refusedLines(t *testing.T, what string, want api.Errno, g api.Plain, l ...api.Clash) {
	t.Helper()
	if lines, e := solve.Lines(g, l...); e != want || len(lines) > 0 {
		t.Error(what, "Lines:", lines, e)
	}
}

// Whatever else is handed in: an automaton that was right, one that may not be, none; clashes that may not be, none.
func TestNoGrammar(t *testing.T) {
	all := turnings()
	for what, g := range map[string]api.Plain{"the zero one": {}, "rules alone": {Rules: []string{"S"}}, "an empty production alone": {Rules: []string{"S"}, Prods: []api.Prod{{}}}} {
		all[what] = func(of *api.Plain) { *of = g }
	}
	for what, turn := range all {
		g := read("S = A b; A = a")
		a := built(t, g)
		likeWords(t, g, a)
		turn(&g)
		refused(t, what, api.ErrPlain, g, a)
		refused(t, what, api.ErrPlain, g, api.Auto{})
		a.States[0] = nil
		refused(t, what, api.ErrPlain, g, a)
		refusedLines(t, what, api.ErrPlain, g)
		refusedLines(t, what, api.ErrPlain, g, api.Clash{})
		refusedLines(t, what, api.ErrPlain, g, api.Clash{Kind: -1})
		refusedLines(t, what, api.ErrPlain, g, api.Clash{Prods: []int{1 << 20}})
	}
}

func TestNoAutomaton(t *testing.T) {
	for what, turn := range map[string]func(a *api.Auto){
		"the zero one":    func(a *api.Auto) { *a = api.Auto{} },
		"no states":       func(a *api.Auto) { a.States = nil },
		"no Next":         func(a *api.Auto) { a.Next = nil },
		"a state too few": func(a *api.Auto) { a.States = a.States[:4] },
		"a row too few":   func(a *api.Auto) { a.Next = a.Next[:4] },
		"a row too many":  func(a *api.Auto) { a.Next = append(a.Next, a.Next[4]) },
		"an empty row":    func(a *api.Auto) { a.Next[4] = nil },
		"a row too short": func(a *api.Auto) { a.Next[4] = a.Next[4][:5] },
		"a row too long":  func(a *api.Auto) { a.Next[4] = append(a.Next[4], -1) },
		"rows as long as there are kinds": func(a *api.Auto) {
			for s := range a.Next {
				a.Next[s] = a.Next[s][:4]
			}
		},
		"an empty state":              func(a *api.Auto) { a.States[4] = nil },
		"an item twice":               func(a *api.Auto) { a.States[4] = append(a.States[4], a.States[4][0]) },
		"not rising":                  func(a *api.Auto) { slices.Reverse(a.States[0]) },
		"not closed":                  func(a *api.Auto) { a.States[0] = a.States[0][1:] },
		"without the start's item":    func(a *api.Auto) { a.States[0] = a.States[0][:2] },
		"no such Prod":                func(a *api.Auto) { a.States[4][0].Prod = 3 },
		"a Prod below 0":              func(a *api.Auto) { a.States[4][0].Prod = -1 },
		"no such Dot":                 func(a *api.Auto) { a.States[4][0].Dot = 3 },
		"a Dot as high as can be":     func(a *api.Auto) { a.States[4][0].Dot = math.MaxInt },
		"no such Look":                func(a *api.Auto) { a.States[4][0].Look = 4 },
		"a Look below 0":              func(a *api.Auto) { a.States[4][0].Look = -1 },
		"no such state":               func(a *api.Auto) { a.Next[0][2] = 5 },
		"a state below -1":            func(a *api.Auto) { a.Next[4][2] = -2 },
		"nowhere where it goes on":    func(a *api.Auto) { a.Next[0][2] = -1 },
		"somewhere where it does not": func(a *api.Auto) { a.Next[4][2] = 1 },
		"somewhere by the end":        func(a *api.Auto) { a.Next[2][api.KindEnd] = 4 },
		"another state":               func(a *api.Auto) { a.Next[0][2] = 4 },
		"a state of other items besides": func(a *api.Auto) {
			a.States, a.Next = append(a.States, state([3]int{0, 1, 0})), append(a.Next, []int{-1, -1, -1, -1, -1, -1})
		},
	} {
		g := read("S = A b; A = a")
		a := built(t, g)
		if len(a.States) != 5 {
			t.Fatal("the test is wrong:", a.States)
		}
		turn(&a)
		if items.Right(g, a) != api.ErrAuto {
			t.Error("the test is wrong:", what)
		}
		refused(t, what, api.ErrAuto, g, a)
		g.Start = -1
		refused(t, what+", of no grammar", api.ErrPlain, g, a)
	}
}

// An automaton of another grammar: of another start, of a production less, of one more, of other symbols.
func TestOfAnotherGrammar(t *testing.T) {
	g := read("S = A b; A = a")
	a := built(t, g)
	for what, other := range map[string]api.Plain{
		"another start":     {Kinds: g.Kinds, Precs: g.Precs, Rules: g.Rules, Prods: g.Prods, Start: 1},
		"a production less": read("S = A b; a"),
		"one more":          read("S = A b; A = a; A = b"),
		"one more behind":   read("S = A b; A = a; S = b"),
		"other symbols":     read("S = A b; A = b; a"),
		"a kind more":       read("S = A b; A = a; c"),
		"a rule more":       read("S = A b; A = a; B"),
	} {
		refused(t, what, api.ErrAuto, other, a)
	}
}

func TestNoStateOrKind(t *testing.T) {
	for _, g := range []api.Plain{read("S = A b; A = a"), read("E = E o E; E = n; left o"), read("S; a"), {Kinds: []string{"end", "error"}, Precs: make([]api.Prec, 2), Rules: []string{"S"}}} {
		a := built(t, g)
		for s := range a.States {
			for _, kind := range outside(len(g.Kinds)) {
				if l, e := solve.Moves(g, a, s, kind); e != api.ErrArg || len(l) > 0 {
					t.Error(text(g), s, kind, l, e)
				}
			}
		}
		for _, s := range outside(len(a.States)) {
			for kind := range g.Kinds {
				if l, e := solve.Moves(g, a, s, kind); e != api.ErrArg || len(l) > 0 {
					t.Error(text(g), s, kind, l, e)
				}
			}
			for _, kind := range outside(len(g.Kinds)) {
				if l, e := solve.Moves(g, a, s, kind); e != api.ErrArg || len(l) > 0 {
					t.Error(text(g), s, kind, l, e)
				}
			}
		}
		for rule := range g.Rules { // rules are symbols, but no kinds
			if l, e := solve.Moves(g, a, 0, len(g.Kinds)+rule); e != api.ErrArg || len(l) > 0 {
				t.Error(text(g), rule, l, e)
			}
		}
		likeWords(t, g, a)
	}
}
