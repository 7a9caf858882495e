package table_test

import (
	"math"
	"slices"
	"testing"

	"quoin/api"
	"quoin/table"
)

// P17.2: what a packed table says, whoever packed it.

// outside are numbers that are none of so many.
func outside(count int) []int {
	return []int{math.MinInt, -count - 1, -2, -1, count, count + 1, 2*count + 2, 1 << 20, math.MaxInt}
}

func TestLooks(t *testing.T) {
	x := tab("s1 . r1 . s0 | - 1 -; . acc . r0 r0 | - - 0; . . . . . | - - -")
	p := packed(t, x)
	reduce := func(n int) api.Move { return api.Move{Do: api.MoveReduce, N: n} }
	want := [][]api.Move{
		{{Do: api.MoveShift, N: 1}, reduce(1), reduce(1), reduce(1), {Do: api.MoveShift}},
		{reduce(0), {Do: api.MoveAccept}, reduce(0), reduce(0), reduce(0)},
		make([]api.Move, 5),
	}
	for s, row := range want {
		for kind, m := range row {
			if got := table.Move(p, s, kind); got != m {
				t.Error(s, kind, got)
			}
		}
		for rule, to := range x.Goto[s] {
			if got := table.Goto(p, s, rule); got != to {
				t.Error(s, rule, got)
			}
		}
	}
}

// Of what is none there is an error and no Goto, though the state has a default, and though something stands at that place.
func TestNoSuchLooks(t *testing.T) {
	p := packed(t, tab("s1 s0 s1 | 1 1; r0 r0 s0 | 0 0"))
	for s := range 2 {
		for _, n := range outside(3) {
			if m := table.Move(p, s, n); m != (api.Move{}) {
				t.Error(s, n, m)
			}
		}
		for _, n := range outside(2) {
			if to := table.Goto(p, s, n); to != -1 {
				t.Error(s, n, to)
			}
		}
	}
	for _, s := range outside(2) {
		for n := range 3 {
			if m, to := table.Move(p, s, n), table.Goto(p, s, n); m != (api.Move{}) || to != -1 {
				t.Error(s, n, m, to)
			}
		}
		for _, n := range outside(3) {
			if m, to := table.Move(p, s, n), table.Goto(p, s, n); m != (api.Move{}) || to != -1 {
				t.Error(s, n, m, to)
			}
		}
	}
	for _, s := range append(outside(0), 0) {
		for _, n := range append(outside(0), 0) {
			if m, to := table.Move(api.Packed{}, s, n), table.Goto(api.Packed{}, s, n); m != (api.Move{}) || to != -1 {
				t.Error(s, n, m, to)
			}
		}
	}
}

// hand is a packed table of two states, made by hand: all that is looked up stands in it.
func hand() api.Packed {
	return api.Packed{
		Kinds: 3, Rules: 2,
		Default:   []api.Move{{Do: 5, N: 1}, {Do: 8, N: 2}},
		Base:      []int{0, 3},
		Check:     []int{0, 0, 0, 1, 1, 1},
		Cell:      []api.Move{{Do: 10}, {Do: 11}, {Do: 12}, {Do: 20}, {Do: 21}, {Do: 22}},
		GotoBase:  []int{0, 2},
		GotoCheck: []int{0, 0, 1, 1},
		GotoCell:  []int{10, 11, 20, 21},
	}
}

// Lists that are too short or too long, bases that are no place: what can't be looked up is not there.
func TestHandMade(t *testing.T) {
	type looks struct {
		moves [2][3]int // each Do; of a default 5 or 8
		to    [2][2]int
	}
	whole := looks{[2][3]int{{10, 11, 12}, {20, 21, 22}}, [2][2]int{{10, 11}, {20, 21}}}
	for what, c := range map[string]struct {
		turn func(p *api.Packed)
		want func(l *looks)
	}{
		"as it is":               {func(p *api.Packed) {}, func(l *looks) {}},
		"a Check too few":        {func(p *api.Packed) { p.Check = p.Check[:5] }, func(l *looks) { l.moves[1][2] = 8 }},
		"no Check":               {func(p *api.Packed) { p.Check = nil }, func(l *looks) { l.moves = [2][3]int{{5, 5, 5}, {8, 8, 8}} }},
		"a Cell too few":         {func(p *api.Packed) { p.Cell = p.Cell[:4] }, func(l *looks) { l.moves[1] = [3]int{20, 8, 8} }},
		"no Cell":                {func(p *api.Packed) { p.Cell = nil }, func(l *looks) { l.moves = [2][3]int{{5, 5, 5}, {8, 8, 8}} }},
		"a Base too few":         {func(p *api.Packed) { p.Base = p.Base[:1] }, func(l *looks) { l.moves[1] = [3]int{8, 8, 8} }},
		"no Base":                {func(p *api.Packed) { p.Base = nil }, func(l *looks) { l.moves = [2][3]int{{5, 5, 5}, {8, 8, 8}} }},
		"a Base too many":        {func(p *api.Packed) { p.Base = append(p.Base, 0) }, func(l *looks) {}},
		"a GotoCheck too few":    {func(p *api.Packed) { p.GotoCheck = p.GotoCheck[:3] }, func(l *looks) { l.to[1][1] = -1 }},
		"a GotoCell too few":     {func(p *api.Packed) { p.GotoCell = p.GotoCell[:1] }, func(l *looks) { l.to = [2][2]int{{10, -1}, {-1, -1}} }},
		"a GotoBase too few":     {func(p *api.Packed) { p.GotoBase = p.GotoBase[:1] }, func(l *looks) { l.to[1] = [2]int{-1, -1} }},
		"a GotoBase too many":    {func(p *api.Packed) { p.GotoBase = append(p.GotoBase, 0) }, func(l *looks) {}},
		"a base below 0":         {func(p *api.Packed) { p.Base[1] = -1 }, func(l *looks) { l.moves[1] = [3]int{8, 8, 8} }},
		"a base beyond all":      {func(p *api.Packed) { p.Base[1] = 6 }, func(l *looks) { l.moves[1] = [3]int{8, 8, 8} }},
		"a base one too far":     {func(p *api.Packed) { p.Base[1] = 4 }, func(l *looks) { l.moves[1] = [3]int{21, 22, 8} }},
		"a base one ahead":       {func(p *api.Packed) { p.Base[1] = 2 }, func(l *looks) { l.moves[1] = [3]int{8, 20, 21} }},
		"another state's base":   {func(p *api.Packed) { p.Base[1] = 0 }, func(l *looks) { l.moves[1] = [3]int{8, 8, 8} }},
		"the least base":         {func(p *api.Packed) { p.Base[0] = math.MinInt }, func(l *looks) { l.moves[0] = [3]int{5, 5, 5} }},
		"the greatest base":      {func(p *api.Packed) { p.Base[0] = math.MaxInt }, func(l *looks) { l.moves[0] = [3]int{5, 5, 5} }},
		"a base next to that":    {func(p *api.Packed) { p.Base[0] = math.MaxInt - 1 }, func(l *looks) { l.moves[0] = [3]int{5, 5, 5} }},
		"a GotoBase below 0":     {func(p *api.Packed) { p.GotoBase[0] = -1 }, func(l *looks) { l.to[0] = [2]int{-1, 10} }},
		"a GotoBase beyond all":  {func(p *api.Packed) { p.GotoBase[0] = 4 }, func(l *looks) { l.to[0] = [2]int{-1, -1} }},
		"the least GotoBase":     {func(p *api.Packed) { p.GotoBase[1] = math.MinInt }, func(l *looks) { l.to[1] = [2]int{-1, -1} }},
		"the greatest GotoBase":  {func(p *api.Packed) { p.GotoBase[1] = math.MaxInt }, func(l *looks) { l.to[1] = [2]int{-1, -1} }},
		"another Check":          {func(p *api.Packed) { p.Check[0], p.Check[4] = 1, 0 }, func(l *looks) { l.moves = [2][3]int{{5, 11, 12}, {20, 8, 22}} }},
		"a Check of -1":          {func(p *api.Packed) { p.Check[0] = -1 }, func(l *looks) { l.moves[0][0] = 5 }},
		"a Check of no state":    {func(p *api.Packed) { p.Check[0] = 2 }, func(l *looks) { l.moves[0][0] = 5 }},
		"a GotoCheck of -1":      {func(p *api.Packed) { p.GotoCheck[3] = -1 }, func(l *looks) { l.to[1][1] = -1 }},
		"a GotoCheck of another": {func(p *api.Packed) { p.GotoCheck[3] = 0 }, func(l *looks) { l.to[1][1] = -1 }},
		"a kind less":            {func(p *api.Packed) { p.Kinds = 2 }, func(l *looks) { l.moves[0][2], l.moves[1][2] = 0, 0 }},
		"no kinds":               {func(p *api.Packed) { p.Kinds = 0 }, func(l *looks) { l.moves = [2][3]int{} }},
		"kinds below 0":          {func(p *api.Packed) { p.Kinds = math.MinInt }, func(l *looks) { l.moves = [2][3]int{} }},
		"a rule less":            {func(p *api.Packed) { p.Rules = 1 }, func(l *looks) { l.to[0][1], l.to[1][1] = -1, -1 }},
		"rules below 0":          {func(p *api.Packed) { p.Rules = -1 }, func(l *looks) { l.to = [2][2]int{{-1, -1}, {-1, -1}} }},
		"a Default less":         {func(p *api.Packed) { p.Default = p.Default[:1] }, func(l *looks) { l.moves[1], l.to[1] = [3]int{}, [2]int{-1, -1} }},
		"no Default":             {func(p *api.Packed) { p.Default = nil }, func(l *looks) { *l = looks{to: [2][2]int{{-1, -1}, {-1, -1}}} }},
		"a Default more":         {func(p *api.Packed) { p.Default = append(p.Default, api.Move{Do: 9}) }, func(l *looks) {}},
		"another Default":        {func(p *api.Packed) { p.Default[1], p.Check[3] = api.Move{Do: -7}, 0 }, func(l *looks) { l.moves[1][0] = -7 }},
	} {
		p, want := hand(), whole
		c.turn(&p)
		c.want(&want)
		var got looks
		for s := range 2 {
			for kind := range 3 {
				got.moves[s][kind] = table.Move(p, s, kind).Do
			}
			for rule := range 2 {
				got.to[s][rule] = table.Goto(p, s, rule)
			}
		}
		if got != want {
			t.Error(what, got, want)
		}
		likePacked(t, p)
	}
}

// Kinds far beyond all lists, by bases far below 0: nothing wraps.
func TestFarPlaces(t *testing.T) {
	p := hand()
	p.Kinds, p.Rules = math.MaxInt, math.MaxInt
	p.Base, p.GotoBase = []int{-math.MaxInt + 2, math.MaxInt}, []int{-math.MaxInt + 2, math.MaxInt}
	far := math.MaxInt - 1
	for kind, want := range map[int]int{far: 11, far - 1: 10, far - 2: 5, 0: 5, 3: 5} {
		if m := table.Move(p, 0, kind); m.Do != want && (want != 5 || m != p.Default[0]) {
			t.Error(kind, m)
		}
	}
	for rule, want := range map[int]int{far: 11, far - 1: 10, far - 2: -1, 0: -1, 3: -1} {
		if to := table.Goto(p, 0, rule); to != want {
			t.Error(rule, to)
		}
	}
	for _, n := range []int{0, 1, 2, 1 << 40, far - 1, far} {
		if m, to := table.Move(p, 1, n), table.Goto(p, 1, n); m != p.Default[1] || to != -1 {
			t.Error(n, m, to)
		}
	}
}

// What is unpacked is what the looks say, and no default is put in once more.
func TestUnpackHandMade(t *testing.T) {
	p := hand()
	p.Default[0] = api.Move{N: 7}
	p.Check[0], p.Cell[1], p.GotoCell[0] = -1, api.Move{Do: api.MoveReduce, N: 3}, -9
	x, e := table.Unpack(p)
	want := api.Table{
		Moves: [][]api.Move{{{N: 7}, {Do: api.MoveReduce, N: 3}, {Do: 12}}, {{Do: 20}, {Do: 21}, {Do: 22}}},
		Goto:  [][]int{{-9, 11}, {20, 21}},
	}
	if e != api.OK || told(x) != told(want) {
		t.Error(x, e)
	}
	likePacked(t, p)
}

func TestNoUnpack(t *testing.T) {
	for what, turn := range map[string]func(p *api.Packed){
		"the zero one":        func(p *api.Packed) { *p = api.Packed{} },
		"no state":            func(p *api.Packed) { p.Default, p.Base, p.GotoBase = nil, nil, nil },
		"no Default":          func(p *api.Packed) { p.Default = nil },
		"a Default less":      func(p *api.Packed) { p.Default = p.Default[:1] },
		"a Default more":      func(p *api.Packed) { p.Default = append(p.Default, api.Move{}) },
		"no Base":             func(p *api.Packed) { p.Base = nil },
		"a Base less":         func(p *api.Packed) { p.Base = p.Base[:1] },
		"a Base more":         func(p *api.Packed) { p.Base = append(p.Base, 0) },
		"no GotoBase":         func(p *api.Packed) { p.GotoBase = nil },
		"a GotoBase less":     func(p *api.Packed) { p.GotoBase = p.GotoBase[:1] },
		"a GotoBase more":     func(p *api.Packed) { p.GotoBase = append(p.GotoBase, 0) },
		"one kind":            func(p *api.Packed) { p.Kinds = 1 },
		"no kind":             func(p *api.Packed) { p.Kinds = 0 },
		"kinds below 0":       func(p *api.Packed) { p.Kinds = -1 },
		"the least kinds":     func(p *api.Packed) { p.Kinds = math.MinInt },
		"1025 kinds":          func(p *api.Packed) { p.Kinds = 1025 },
		"the greatest kinds":  func(p *api.Packed) { p.Kinds = math.MaxInt },
		"rules below 0":       func(p *api.Packed) { p.Rules = -1 },
		"the least rules":     func(p *api.Packed) { p.Rules = math.MinInt },
		"2049 rules":          func(p *api.Packed) { p.Rules = 2049 },
		"the greatest rules":  func(p *api.Packed) { p.Rules = math.MaxInt },
		"states alone":        func(p *api.Packed) { *p = api.Packed{Default: p.Default, Base: p.Base, GotoBase: p.GotoBase} },
		"all but the numbers": func(p *api.Packed) { p.Kinds, p.Rules = 0, 0 },
	} {
		p := hand()
		turn(&p)
		if x, e := table.Unpack(p); e != api.ErrTable || told(x) != told(api.Table{}) {
			t.Error(what, x, e)
		}
	}
}

// As many kinds and rules as may be, and as few.
func TestUnpackEdges(t *testing.T) {
	for _, n := range [][2]int{{2, 0}, {2, 1}, {1024, 0}, {2, 2048}, {1024, 2048}} {
		p := hand()
		p.Kinds, p.Rules = n[0], n[1]
		x, e := table.Unpack(p)
		if e != api.OK || len(x.Moves) != 2 || len(x.Goto) != 2 || len(x.Moves[1]) != n[0] || len(x.Goto[1]) != n[1] {
			t.Error(n, e)
		}
		likePacked(t, p)
	}
}

// Lists that nothing asks of may be anything: Check and Cell, of unlike lengths, or none.
func TestUnpackOfAnyLists(t *testing.T) {
	p := hand()
	p.Check, p.Cell, p.GotoCheck, p.GotoCell = nil, p.Cell[:1], append(p.GotoCheck, 0), nil
	x, e := table.Unpack(p)
	moves := [][]api.Move{slices.Repeat(p.Default[:1], 3), slices.Repeat(p.Default[1:], 3)}
	if want := (api.Table{Moves: moves, Goto: [][]int{{-1, -1}, {-1, -1}}}); e != api.OK || told(x) != told(want) {
		t.Error(x, e)
	}
}

func TestPackedByChance(t *testing.T) {
	m := newMaker(1020)
	var often [2]int
	for range 30000 {
		p := m.packed()
		likePacked(t, p)
		if _, is := wordUnpack(p); is {
			often[1]++
		} else {
			often[0]++
		}
	}
	if slices.Min(often[:]) < 3000 {
		t.Error(often)
	}
}

// What is packed, with something turned in it.
func TestTurnedPacked(t *testing.T) {
	m := newMaker(1021)
	for range 4000 {
		kinds, rules, prods := 2+m.Intn(5), 1+m.Intn(4), 1+m.Intn(5)
		p, e := table.Pack(m.table(kinds, rules, prods), kinds, rules, prods)
		if e != api.OK {
			t.Fatal(e)
		}
		for range 1 + m.Intn(3) {
			for _, l := range [][]int{p.Base, p.Check, p.GotoBase, p.GotoCheck, p.GotoCell} {
				if m.Intn(3) == 0 {
					l[m.Intn(len(l))] = m.Intn(7) - 2
				}
			}
			p.Kinds, p.Rules = m.about(p.Kinds), m.about(p.Rules)
		}
		likePacked(t, p)
	}
}
