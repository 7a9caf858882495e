package pager_test

import (
	"math"
	"slices"
	"testing"

	"quoin/api"
	"quoin/pager"
)

// P15.1 to P15.3: what may not be, a grammar, or items, at each of the calls, and which error is first. DOC.md's R1, R2 and R3.

// turnings are grammars that may not be by one thing each, beside S = A b; A = a.
func turnings() map[string]func(g *api.Plain) {
	return map[string]func(g *api.Plain){
		"no kinds":            func(g *api.Plain) { g.Kinds, g.Precs = nil, nil },
		"a kind twice":        func(g *api.Plain) { g.Kinds[3] = "a" },
		"a kind too few":      func(g *api.Plain) { g.Kinds = g.Kinds[:3] },
		"a Prec too many":     func(g *api.Plain) { g.Precs = append(g.Precs, api.Prec{}) },
		"a level of error":    func(g *api.Plain) { g.Precs[1] = api.Prec{Level: 1, Assoc: api.AssocLeft} },
		"an Assoc alone":      func(g *api.Plain) { g.Precs[2].Assoc = api.AssocLeft },
		"no rules":            func(g *api.Plain) { g.Rules, g.Prods = nil, nil },
		"a rule twice":        func(g *api.Plain) { g.Rules[1] = "S" },
		"a rule without name": func(g *api.Plain) { g.Rules[1] = "" },
		"no such start":       func(g *api.Plain) { g.Start = 2 },
		"a start below 0":     func(g *api.Plain) { g.Start = -1 },
		"a start beyond all":  func(g *api.Plain) { g.Start = math.MaxInt },
		"no such Left":        func(g *api.Plain) { g.Prods[1].Left = 2 },
		"a Left below 0":      func(g *api.Plain) { g.Prods[1].Left = -1 },
		"the end in Right":    func(g *api.Plain) { g.Prods[1].Right = []int{0} },
		"no such symbol":      func(g *api.Plain) { g.Prods[1].Right = []int{6} },
		"a symbol below 0":    func(g *api.Plain) { g.Prods[1].Right = []int{-1} },
		"65 symbols":          func(g *api.Plain) { g.Prods[1].Right = slices.Repeat([]int{2}, 65) },
		"4097 productions":    func(g *api.Plain) { g.Prods = slices.Repeat(g.Prods, 2049)[:4097] },
		"a Level below 0":     func(g *api.Plain) { g.Prods[1].Level = -1 },
		"no such action":      func(g *api.Plain) { g.Prods[1].Act.Kind = 9 },
		"no such pick":        func(g *api.Plain) { g.Prods[1].Act = api.Act{Kind: api.ActPick, At: 1} },
	}
}

// good are items of a state of S = A b; A = a.
func good() []api.Item { return kernel([]int{2, 0, 0}, []int{0, 1, 1}, []int{1, 1, 2}, []int{0, 0, 3}) }

// refusedPair holds Weak and Unite at an error, and nothing else.
func refusedPair(t *testing.T, what string, want api.Errno, g api.Plain, a, b []api.Item) {
	t.Helper()
	if is, e := pager.Weak(g, a, b); is || e != want {
		t.Error(what, a, b, "Weak:", is, e)
	}
	if l, e := pager.Unite(g, a, b); len(l) > 0 || e != want {
		t.Error(what, a, b, "Unite:", l, e)
	}
}

func refusedCores(t *testing.T, what string, want api.Errno, g api.Plain, states ...[]api.Item) {
	t.Helper()
	for _, next := range [][][]int{nil, make([][]int, len(states)), {{math.MaxInt}}} {
		if n, e := pager.Cores(g, api.Auto{States: states, Next: next}); n != 0 || e != want {
			t.Error(what, states, "Cores:", n, e)
		}
	}
}

// refused holds all calls at a grammar that may not be, whatever else they are given.
func refused(t *testing.T, what string, g api.Plain) {
	t.Helper()
	lists := [][]api.Item{nil, good(), kernel([]int{2, 0, 0}), kernel([]int{-1, 0, 0}), kernel([]int{0, 0, math.MaxInt}, []int{1, 0, 0})}
	for _, l := range lists {
		for _, k := range lists {
			refusedPair(t, what, api.ErrPlain, g, l, k)
			refusedCores(t, what, api.ErrPlain, g, l, k)
		}
	}
	refusedCores(t, what, api.ErrPlain, g)
	if a, e := pager.Build(g); e != api.ErrPlain || told(a) != told(api.Auto{}) {
		t.Error(what, "Build:", a, e)
	}
	if a, e := pager.Lalr(g); e != api.ErrPlain || told(a) != told(api.Auto{}) {
		t.Error(what, "Lalr:", a, e)
	}
}

func TestNoGrammar(t *testing.T) {
	for what, turn := range turnings() {
		g := read("S = A b; A = a")
		likePair(t, g, good(), good())
		turn(&g)
		refused(t, what, g)
	}
	refused(t, "the zero one", api.Plain{})
	refused(t, "rules alone", api.Plain{Rules: []string{"S"}})
	refused(t, "an empty production alone", api.Plain{Rules: []string{"S"}, Prods: []api.Prod{{}}})
}

// As little as a grammar can be.
func TestLeastGrammar(t *testing.T) {
	g := api.Plain{Kinds: []string{"end", "error"}, Precs: make([]api.Prec, 2), Rules: []string{"S"}}
	for range 2 {
		likePair(t, g, nil, nil)
		likePair(t, g, kernel([]int{len(g.Prods), 0, 0}, []int{len(g.Prods), 1, 1}), kernel([]int{len(g.Prods), 0, 1}, []int{len(g.Prods), 1, 0}))
		a, _, _ := likeBuild(t, g)
		likeLalr(t, g)
		likeCores(t, g, a)
		likeCores(t, g, api.Auto{})
		g.Prods = []api.Prod{{}}
	}
}

// badItems are items that may not be, of S = A b; A = a, whose start's production is 2, and whose kinds are 0 to 3.
func badItems() map[string]api.Item {
	return map[string]api.Item{
		"Prod below 0":                   {Prod: -1},
		"Prod as low as can be":          {Prod: math.MinInt},
		"Prod beyond the start's":        {Prod: 3},
		"Prod far beyond":                {Prod: 100},
		"Prod as high as can be":         {Prod: math.MaxInt},
		"Dot below 0":                    {Prod: 0, Dot: -1},
		"Dot below 0, the start's":       {Prod: 2, Dot: -1},
		"Dot as low as can be":           {Prod: 0, Dot: math.MinInt},
		"Dot beyond two":                 {Prod: 0, Dot: 3},
		"Dot beyond one":                 {Prod: 1, Dot: 2},
		"Dot beyond one, the start's":    {Prod: 2, Dot: 2},
		"Dot as high as can be":          {Prod: 1, Dot: math.MaxInt},
		"Dot as high, the start's":       {Prod: 2, Dot: math.MaxInt},
		"Look below 0":                   {Prod: 0, Look: -1},
		"Look as low as can be":          {Prod: 2, Look: math.MinInt},
		"Look a rule":                    {Prod: 0, Look: 4},
		"Look another rule":              {Prod: 2, Look: 5},
		"Look no symbol":                 {Prod: 1, Look: 6},
		"Look as high as can be":         {Prod: 1, Dot: 1, Look: math.MaxInt},
		"nothing of it may be":           {Prod: -1, Dot: -1, Look: -1},
		"no Prod, but a Dot of the last": {Prod: -1, Dot: 1, Look: 1},
	}
}

// ErrItem of the first, of the second and of both: ahead of ErrArg.
func TestBadItems(t *testing.T) {
	g := read("S = A b; A = a")
	other := kernel([]int{0, 2, 1})
	likePair(t, g, good(), good())
	refusedPair(t, "the test is wrong", api.ErrArg, g, good(), other)
	for what, bad := range badItems() {
		if wordIsItem(g, bad) {
			t.Error("the test is wrong:", what)
		}
		refusedPair(t, what, api.ErrItem, g, []api.Item{bad}, []api.Item{bad})
		refusedPair(t, what, api.ErrItem, g, []api.Item{bad}, nil)
		refusedPair(t, what, api.ErrItem, g, nil, []api.Item{bad})
		for at := range len(good()) + 1 {
			wrong := slices.Insert(good(), at, bad)
			refusedPair(t, what, api.ErrItem, g, wrong, wrong)
			for _, l := range [][]api.Item{nil, good(), other} {
				refusedPair(t, what, api.ErrItem, g, wrong, l)
				refusedPair(t, what, api.ErrItem, g, l, wrong)
			}
			for n := range 4 {
				refusedCores(t, what, api.ErrItem, g, slices.Insert([][]api.Item{good(), nil, other}, n, wrong)...)
			}
		}
	}
}

// All items that may be, of the start's production, at each end, with each kind; and those around them.
func TestItemsAround(t *testing.T) {
	g := read("S = A b; A = a; A =; error")
	often := 0
	for prod := -2; prod < len(g.Prods)+3; prod++ {
		for dot := -2; dot < 5; dot++ {
			for look := -2; look < size(g)+2; look++ {
				i := api.Item{Prod: prod, Dot: dot, Look: look}
				if wordIsItem(g, i) {
					likePair(t, g, []api.Item{i}, []api.Item{{Prod: prod, Dot: dot}})
					likeCores(t, g, api.Auto{States: [][]api.Item{{i}, nil}})
					often++
				} else {
					refusedPair(t, told(i), api.ErrItem, g, []api.Item{i}, []api.Item{i})
					refusedCores(t, told(i), api.ErrItem, g, []api.Item{i})
				}
			}
		}
	}
	if often != 4*(3+2+1+2) { // kinds, times the Dots of each production and of the start's
		t.Error(often)
	}
}

// ErrPlain, then ErrItem, then ErrArg, then ErrFull.
func TestWhichErrorIsFirst(t *testing.T) {
	g := wide(256, 256)
	one, other, bad := kernel([]int{0, 1, 0}), kernel([]int{0, 2, 0}), kernel([]int{-1, 0, 0})
	if l, e := pager.Unite(g, one, one); e != api.ErrFull || len(l) > 0 {
		t.Error(len(l), e)
	}
	if is, e := pager.Weak(g, one, one); e != api.OK || !is {
		t.Error(is, e)
	}
	refusedPair(t, "unlike cores", api.ErrArg, g, one, other)
	refusedPair(t, "bad items, too", api.ErrItem, g, slices.Concat(one, bad), other)
	refusedPair(t, "bad items, too", api.ErrItem, g, other, slices.Concat(one, bad))
	g.Start = -1
	refusedPair(t, "a wrong grammar, too", api.ErrPlain, g, slices.Concat(one, bad), other)
	refusedPair(t, "a wrong grammar", api.ErrPlain, g, one, one)
	refusedCores(t, "a wrong grammar", api.ErrPlain, g, bad)
}
