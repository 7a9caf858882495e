package items_test

import (
	"math"
	"slices"
	"testing"

	"quoin/api"
	"quoin/items"
)

// J1: what may not be, a grammar, items or a symbol, at each of the calls, and which error is first. DOC.md's R1 and R3.

// turnings are grammars that may not be by one thing each, beside S = A b; A = a.
func turnings() map[string]func(g *api.Plain) {
	return map[string]func(g *api.Plain){
		"no kinds":            func(g *api.Plain) { g.Kinds, g.Precs = nil, nil },
		"a kind twice":        func(g *api.Plain) { g.Kinds[3] = "a" },
		"a kind too few":      func(g *api.Plain) { g.Kinds = g.Kinds[:3] },
		"a Prec too many":     func(g *api.Plain) { g.Precs = append(g.Precs, api.Prec{}) },
		"a level of error":    func(g *api.Plain) { g.Precs[1] = api.Prec{Level: 1, Assoc: api.AssocLeft} },
		"an Assoc alone":      func(g *api.Plain) { g.Precs[2].Assoc = api.AssocLeft },
		"no rules":            func(g *api.Plain) { g.Rules, g.Prods = nil, nil },
		"a rule twice":        func(g *api.Plain) { g.Rules[1] = "S" },
		"a rule without name": func(g *api.Plain) { g.Rules[1] = "" },
		"no such start":       func(g *api.Plain) { g.Start = 2 },
		"a start below 0":     func(g *api.Plain) { g.Start = -1 },
		"a start beyond all":  func(g *api.Plain) { g.Start = math.MaxInt },
		"no such Left":        func(g *api.Plain) { g.Prods[1].Left = 2 },
		"a Left below 0":      func(g *api.Plain) { g.Prods[1].Left = -1 },
		"the end in Right":    func(g *api.Plain) { g.Prods[1].Right = []int{0} },
		"no such symbol":      func(g *api.Plain) { g.Prods[1].Right = []int{6} },
		"a symbol below 0":    func(g *api.Plain) { g.Prods[1].Right = []int{-1} },
		"65 symbols":          func(g *api.Plain) { g.Prods[1].Right = slices.Repeat([]int{2}, 65) },
		"4097 productions":    func(g *api.Plain) { g.Prods = slices.Repeat(g.Prods, 2049)[:4097] },
		"a Level below 0":     func(g *api.Plain) { g.Prods[1].Level = -1 },
		"no such action":      func(g *api.Plain) { g.Prods[1].Act.Kind = 9 },
		"no such pick":        func(g *api.Plain) { g.Prods[1].Act = api.Act{Kind: api.ActPick, At: 1} },
	}
}

// ofNoSymbols are numbers by which nothing can be gone on, in a grammar of so many symbols.
func ofNoSymbols(symbols int) []int {
	return []int{math.MinInt, -symbols, -2, -1, api.KindEnd, symbols, symbols + 1, 2 * symbols, 1 << 20, math.MaxInt}
}

// refusedItems holds what the calls that take items answer, all with one error and nothing else.
func refusedItems(t *testing.T, what string, want api.Errno, g api.Plain, l ...api.Item) {
	t.Helper()
	if e := items.Check(g, l...); e != want {
		t.Error(what, "Check:", e)
	}
	if got, e := items.Closure(g, l...); e != want || len(got) > 0 {
		t.Error(what, "Closure:", got, e)
	}
	for _, x := range append(ofNoSymbols(size(g)), 1, 2, len(g.Kinds)) {
		if got, e := items.Go(g, l, x); e != want || len(got) > 0 {
			t.Error(what, "Go by", x, ":", got, e)
		}
	}
	if got, e := items.Kernel(g, l); e != want || len(got) > 0 {
		t.Error(what, "Kernel:", got, e)
	}
	if got, e := items.Lines(g, l...); e != want || len(got) > 0 {
		t.Error(what, "Lines:", got, e)
	}
}

// refused holds all calls at a grammar that may not be, whatever else they are given.
func refused(t *testing.T, what string, g api.Plain) {
	t.Helper()
	for _, l := range [][]api.Item{nil, state([3]int{0, 0, 0}), state([3]int{2, 0, 0}), state([3]int{-1, 0, 0}), state([3]int{0, 0, math.MaxInt}, [3]int{1, 0, 0})} {
		refusedItems(t, what, api.ErrPlain, g, l...)
	}
	if a, e := items.Build(g); e != api.ErrPlain || told(a) != told(api.Auto{}) {
		t.Error(what, "Build:", a, e)
	}
	for _, a := range []api.Auto{{}, listsAuto(), {States: [][]api.Item{nil}}, {Next: [][]int{{7}}}} {
		if e := items.Right(g, a); e != api.ErrPlain {
			t.Error(what, "Right:", e)
		}
	}
}

func TestNoGrammar(t *testing.T) {
	for what, turn := range turnings() {
		g := read("S = A b; A = a")
		likeWords(t, g, startItem(g))
		turn(&g)
		refused(t, what, g)
	}
	refused(t, "the zero one", api.Plain{})
	refused(t, "rules alone", api.Plain{Rules: []string{"S"}})
	refused(t, "an empty production alone", api.Plain{Rules: []string{"S"}, Prods: []api.Prod{{}}})
}

// As little as a grammar can be.
func TestLeastGrammar(t *testing.T) {
	g := api.Plain{Kinds: []string{"end", "error"}, Precs: make([]api.Prec, 2), Rules: []string{"S"}}
	likeWords(t, g)
	likeWords(t, g, startItem(g))
	likeWords(t, g, state([3]int{0, 1, 1}, [3]int{0, 0, 1})...)
	likeBuild(t, g)
	g.Prods = []api.Prod{{}}
	likeWords(t, g, state([3]int{1, 0, 0}, [3]int{0, 0, 1}, [3]int{1, 1, 0})...)
	likeBuild(t, g)
}

// badItems are items that may not be, of S = A b; A = a, whose start's production is 2, and whose kinds are 0 to 3.
func badItems() map[string]api.Item {
	return map[string]api.Item{
		"Prod below 0":                   {Prod: -1},
		"Prod as low as can be":          {Prod: math.MinInt},
		"Prod beyond the start's":        {Prod: 3},
		"Prod far beyond":                {Prod: 100},
		"Prod as high as can be":         {Prod: math.MaxInt},
		"Dot below 0":                    {Prod: 0, Dot: -1},
		"Dot below 0, the start's":       {Prod: 2, Dot: -1},
		"Dot as low as can be":           {Prod: 0, Dot: math.MinInt},
		"Dot beyond two":                 {Prod: 0, Dot: 3},
		"Dot beyond one":                 {Prod: 1, Dot: 2},
		"Dot beyond one, the start's":    {Prod: 2, Dot: 2},
		"Dot as high as can be":          {Prod: 1, Dot: math.MaxInt},
		"Dot as high, the start's":       {Prod: 2, Dot: math.MaxInt},
		"Look below 0":                   {Prod: 0, Look: -1},
		"Look as low as can be":          {Prod: 2, Look: math.MinInt},
		"Look a rule":                    {Prod: 0, Look: 4},
		"Look another rule":              {Prod: 2, Look: 5},
		"Look no symbol":                 {Prod: 1, Look: 6},
		"Look as high as can be":         {Prod: 1, Dot: 1, Look: math.MaxInt},
		"nothing of it may be":           {Prod: -1, Dot: -1, Look: -1},
		"no Prod, but a Dot of the last": {Prod: -1, Dot: 1, Look: 1},
	}
}

func TestBadItems(t *testing.T) {
	g := read("S = A b; A = a")
	good := state([3]int{2, 0, 0}, [3]int{0, 1, 1}, [3]int{1, 1, 2})
	likeWords(t, g, good...)
	for what, bad := range badItems() {
		if wordIsItem(g, bad) {
			t.Error("the test is wrong:", what)
		}
		refusedItems(t, what, api.ErrItem, g, bad)
		for at := range len(good) + 1 {
			refusedItems(t, what, api.ErrItem, g, slices.Insert(slices.Clone(good), at, bad)...)
		}
		refusedItems(t, what, api.ErrItem, g, bad, bad)
		if a := (api.Auto{States: [][]api.Item{{bad}}, Next: [][]int{slices.Repeat([]int{-1}, size(g))}}); items.Right(g, a) != api.ErrAuto {
			t.Error(what, "Right:", items.Right(g, a))
		}
	}
}

// All items that may be, of the start's production, at each end, with each kind; and those around them.
func TestItemsAround(t *testing.T) {
	g := read("S = A b; A = a; A =; error")
	often := 0
	for prod := -2; prod < len(g.Prods)+3; prod++ {
		for dot := -2; dot < 5; dot++ {
			for look := -2; look < size(g)+2; look++ {
				i := api.Item{Prod: prod, Dot: dot, Look: look}
				if wordIsItem(g, i) {
					likeWords(t, g, i)
					often++
				} else {
					refusedItems(t, told(i), api.ErrItem, g, i)
				}
			}
		}
	}
	if often != 4*(3+2+1+2) { // kinds, times the Dots of each production and of the start's
		t.Error(often)
	}
}

// Without productions the start's is 0.
func TestItemsOfStartAlone(t *testing.T) {
	g := read("S; a")
	for _, i := range state([3]int{0, 0, 0}, [3]int{0, 1, 0}, [3]int{0, 0, 1}, [3]int{0, 1, 2}) {
		likeWords(t, g, i)
	}
	for _, i := range state([3]int{1, 0, 0}, [3]int{0, 2, 0}, [3]int{0, -1, 0}, [3]int{0, 0, 3}, [3]int{0, 1, -1}) {
		refusedItems(t, told(i), api.ErrItem, g, i)
	}
}

// ErrPlain, then ErrItem, then ErrArg.
func TestWhichErrorIsFirst(t *testing.T) {
	g := read("S = A b; A = a")
	good, bad := startItem(g), api.Item{Prod: 3}
	for _, x := range ofNoSymbols(size(g)) {
		for _, l := range [][]api.Item{nil, {good}, {good, good}} {
			if got, e := items.Go(g, l, x); e != api.ErrArg || len(got) > 0 {
				t.Error(x, l, got, e)
			}
		}
		if got, e := items.Go(g, []api.Item{good, bad}, x); e != api.ErrItem || len(got) > 0 {
			t.Error(x, got, e)
		}
	}
	g.Start = 2
	for _, x := range append(ofNoSymbols(size(g)), 2) {
		if got, e := items.Go(g, []api.Item{good, bad}, x); e != api.ErrPlain || len(got) > 0 {
			t.Error(x, got, e)
		}
	}
}

func TestNoItems(t *testing.T) {
	for _, g := range []api.Plain{lists(), read("S = A b; A =; A = A"), read("S")} {
		likeWords(t, g)
		likeWords(t, g, []api.Item{}...)
	}
}
