package table_test

import (
	"math"
	"slices"
	"testing"

	"quoin/api"
	"quoin/table"
)

// DOC.md's R1, R2 and R3: what may not be at all, at each of the calls.

// turnings are grammars that may not be by one thing each, beside S = A b; A = a.
func turnings() map[string]func(g *api.Plain) {
	return map[string]func(g *api.Plain){
		"the zero one":        func(g *api.Plain) { *g = api.Plain{} },
		"rules alone":         func(g *api.Plain) { *g = api.Plain{Rules: []string{"S"}} },
		"no kinds":            func(g *api.Plain) { g.Kinds, g.Precs = nil, nil },
		"a kind twice":        func(g *api.Plain) { g.Kinds[3] = "a" },
		"a kind too few":      func(g *api.Plain) { g.Kinds = g.Kinds[:3] },
		"a Prec too few":      func(g *api.Plain) { g.Precs = g.Precs[:3] },
		"a Prec too many":     func(g *api.Plain) { g.Precs = append(g.Precs, api.Prec{}) },
		"a level of the end":  func(g *api.Plain) { g.Precs[0] = api.Prec{Level: 1, Assoc: api.AssocLeft} },
		"a level of error":    func(g *api.Plain) { g.Precs[1] = api.Prec{Level: 1, Assoc: api.AssocLeft} },
		"an Assoc alone":      func(g *api.Plain) { g.Precs[2].Assoc = api.AssocLeft },
		"a level alone":       func(g *api.Plain) { g.Precs[2].Level = 1 },
		"no such Assoc":       func(g *api.Plain) { g.Precs[2] = api.Prec{Level: 1, Assoc: 4} },
		"no rules":            func(g *api.Plain) { g.Rules, g.Prods = nil, nil },
		"a rule twice":        func(g *api.Plain) { g.Rules[1] = "S" },
		"a rule without name": func(g *api.Plain) { g.Rules[1] = "" },
		"no such start":       func(g *api.Plain) { g.Start = 2 },
		"a start below 0":     func(g *api.Plain) { g.Start = -1 },
		"a start beyond all":  func(g *api.Plain) { g.Start = math.MaxInt },
		"no such Left":        func(g *api.Plain) { g.Prods[1].Left = 2 },
		"a Left below 0":      func(g *api.Plain) { g.Prods[1].Left = -1 },
		"the end in Right":    func(g *api.Plain) { g.Prods[1].Right = []int{0} },
		"no such symbol":      func(g *api.Plain) { g.Prods[1].Right = []int{6} },
		"a symbol below 0":    func(g *api.Plain) { g.Prods[1].Right = []int{-1} },
		"65 symbols":          func(g *api.Plain) { g.Prods[1].Right = slices.Repeat([]int{2}, 65) },
		"4097 productions":    func(g *api.Plain) { g.Prods = slices.Repeat(g.Prods, 2049)[:4097] },
		"a Level below 0":     func(g *api.Plain) { g.Prods[1].Level = -1 },
		"no such action":      func(g *api.Plain) { g.Prods[1].Act.Kind = 9 },
		"no such pick":        func(g *api.Plain) { g.Prods[1].Act = api.Act{Kind: api.ActPick, At: 1} },
	}
}

// What no call made changes nothing, and comes to nothing.
func TestZeroValues(t *testing.T) {
	if e := table.Check(api.Table{}, 0, 0, 0); e != api.ErrArg {
		t.Error(e)
	}
	if e := table.Check(api.Table{}, 2, 0, 0); e != api.ErrTable {
		t.Error(e)
	}
	if x, e := table.Defaults(api.Table{}); e != api.ErrTable || told(x) != told(api.Table{}) {
		t.Error(x, e)
	}
	if p, e := table.Pack(api.Table{}, 2, 0, 0); e != api.ErrTable || told(p) != told(api.Packed{}) {
		t.Error(p, e)
	}
	if x, e := table.Unpack(api.Packed{}); e != api.ErrTable || told(x) != told(api.Table{}) {
		t.Error(x, e)
	}
	if n, e := table.Sound(api.Plain{}, api.Table{}); n != 0 || e != api.ErrPlain {
		t.Error(n, e)
	}
	if n, e := table.Sound(read("S = a"), api.Table{}); n != 0 || e != api.ErrTable {
		t.Error(n, e)
	}
	if b, e := table.Bytes(api.Table{}); e != api.ErrTable || len(b) > 0 {
		t.Error(b, e)
	}
	if x, f := table.Read(nil); f != (api.Fault{Why: api.ErrTable}) || told(x) != told(api.Table{}) {
		t.Error(x, f)
	}
}

// Whatever stands in a table and a packed one, and whatever numbers there are: all calls end.
func TestAnything(t *testing.T) {
	m := newMaker(1040)
	for range 20000 {
		var x api.Table
		for range m.Intn(4) {
			var row []api.Move
			for range m.Intn(4) {
				row = append(row, api.Move{Do: m.number(), N: m.number()})
			}
			x.Moves = append(x.Moves, row)
		}
		for range m.Intn(4) {
			var to []int
			for range m.Intn(4) {
				to = append(to, m.number())
			}
			x.Goto = append(x.Goto, to)
		}
		kinds, rules, prods := m.number(), m.number(), m.number()
		want := api.ErrTable
		if kinds < 2 || rules < 0 || prods < 0 {
			want = api.ErrArg
		} else if wordMayBe(x, kinds, rules, prods) {
			want = api.OK
		}
		if e := table.Check(x, kinds, rules, prods); e != want {
			t.Fatal(x, kinds, rules, prods, e)
		}
		if p, e := table.Pack(x, kinds, rules, prods); e != want || e != api.OK && told(p) != told(api.Packed{}) {
			t.Fatal(x, kinds, rules, prods, p, e)
		}
		likeDefaults(t, x)
		likeBytes(t, x)
		likeSound(t, read("S = a"), x)
		p := m.packed()
		p.Kinds, p.Rules = m.number(), m.number()
		if p.Kinds > 1<<14 || p.Rules > 1<<14 {
			if y, e := table.Unpack(p); e != api.ErrTable || told(y) != told(api.Table{}) {
				t.Fatal(p, y, e)
			}
			for range 10 {
				s, n := m.number(), m.number()
				if table.Move(p, s, n) != wordMove(p, s, n) || table.Goto(p, s, n) != wordGoto(p, s, n) {
					t.Fatal(p, s, n)
				}
			}
		} else {
			likePacked(t, p)
		}
	}
}
