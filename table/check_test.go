package table_test

import (
	"math"
	"slices"
	"testing"

	"quoin/api"
	"quoin/table"
)

// P17.1: which tables may be, and the defaults.

func TestMayBe(t *testing.T) {
	for _, text := range []string{
		". .",
		". . | -",
		"acc acc | -",
		"s0 s0 | 0",
		"r0 r2 | 0",
		". . | 1; s1 s0 | -; r1 acc | 2",
	} {
		x := tab(text)
		if e := table.Check(x, 2, len(x.Goto[0]), 3); e != api.OK {
			t.Error(text, e)
		}
		likeCheck(t, x, 2, len(x.Goto[0]), 3)
		for _, other := range [][3]int{{3, len(x.Goto[0]), 3}, {2, len(x.Goto[0]) + 1, 3}, {math.MaxInt, len(x.Goto[0]), 3}, {2, math.MaxInt, 3}} {
			if e := table.Check(x, other[0], other[1], other[2]); e != api.ErrTable {
				t.Error(text, other, e)
			}
		}
		if e := table.Check(x, 2, len(x.Goto[0]), math.MaxInt); e != api.OK {
			t.Error(text, e)
		}
	}
}

// wrongTables are tables that may not be for 3 kinds, 2 rules and 2 productions, by one thing each; and whether Defaults takes them.
func wrongTables() map[string]struct {
	turn   func(x *api.Table)
	isEven bool
} {
	type one = struct {
		turn   func(x *api.Table)
		isEven bool
	}
	moveOf := func(m api.Move) one {
		return one{func(x *api.Table) { x.Moves[1][2] = m }, true}
	}
	gotoOf := func(to int) one {
		return one{func(x *api.Table) { x.Goto[1][1] = to }, true}
	}
	return map[string]one{
		"the zero one":            {func(x *api.Table) { *x = api.Table{} }, false},
		"no state":                {func(x *api.Table) { x.Moves, x.Goto = [][]api.Move{}, [][]int{} }, false},
		"no Moves":                {func(x *api.Table) { x.Moves = nil }, false},
		"no Goto":                 {func(x *api.Table) { x.Goto = nil }, false},
		"a row of Moves too few":  {func(x *api.Table) { x.Moves = x.Moves[:1] }, false},
		"a row of Moves too many": {func(x *api.Table) { x.Moves = append(x.Moves, x.Moves[0]) }, false},
		"a row of Goto too few":   {func(x *api.Table) { x.Goto = x.Goto[:1] }, false},
		"a row of Goto too many":  {func(x *api.Table) { x.Goto = append(x.Goto, x.Goto[0]) }, false},
		"a row too short":         {func(x *api.Table) { x.Moves[1] = x.Moves[1][:2] }, false},
		"a first row too short":   {func(x *api.Table) { x.Moves[0] = x.Moves[0][:2] }, false},
		"a row too long":          {func(x *api.Table) { x.Moves[1] = append(x.Moves[1], api.Move{}) }, false},
		"an empty row":            {func(x *api.Table) { x.Moves[1] = nil }, false},
		"an empty first row":      {func(x *api.Table) { x.Moves[0] = nil }, false},
		"a Goto too few":          {func(x *api.Table) { x.Goto[1] = x.Goto[1][:1] }, false},
		"a first Goto too few":    {func(x *api.Table) { x.Goto[0] = x.Goto[0][:1] }, false},
		"a Goto too many":         {func(x *api.Table) { x.Goto[1] = append(x.Goto[1], -1) }, false},
		"no Goto of a state":      {func(x *api.Table) { x.Goto[1] = nil }, false},
		"all rows too short": {func(x *api.Table) {
			x.Moves[0], x.Moves[1] = x.Moves[0][:2], x.Moves[1][:2]
		}, true},
		"all rows empty":             {func(x *api.Table) { x.Moves[0], x.Moves[1] = nil, nil }, false},
		"all Gotos too few":          {func(x *api.Table) { x.Goto[0], x.Goto[1] = x.Goto[0][:1], x.Goto[1][:1] }, true},
		"all Gotos empty":            {func(x *api.Table) { x.Goto[0], x.Goto[1] = nil, nil }, true},
		"a Do below 0":               moveOf(api.Move{Do: -1}),
		"a Do above":                 moveOf(api.Move{Do: 4}),
		"a Do far below":             moveOf(api.Move{Do: math.MinInt}),
		"a Do far above":             moveOf(api.Move{Do: math.MaxInt}),
		"a shift to no state":        moveOf(api.Move{Do: api.MoveShift, N: 2}),
		"a shift below 0":            moveOf(api.Move{Do: api.MoveShift, N: -1}),
		"a shift far above":          moveOf(api.Move{Do: api.MoveShift, N: math.MaxInt}),
		"a reduction by none":        moveOf(api.Move{Do: api.MoveReduce, N: 2}),
		"a reduction below 0":        moveOf(api.Move{Do: api.MoveReduce, N: -1}),
		"a reduction far below":      moveOf(api.Move{Do: api.MoveReduce, N: math.MinInt}),
		"an error with a number":     moveOf(api.Move{Do: api.MoveError, N: 1}),
		"an error below 0":           moveOf(api.Move{Do: api.MoveError, N: -1}),
		"an acceptance with one":     moveOf(api.Move{Do: api.MoveAccept, N: 1}),
		"an acceptance below 0":      moveOf(api.Move{Do: api.MoveAccept, N: -1}),
		"a Goto of -2":               gotoOf(-2),
		"a Goto beyond the last one": gotoOf(2),
		"a Goto far below":           gotoOf(math.MinInt),
		"a Goto far above":           gotoOf(math.MaxInt),
	}
}

// right is a table that may be for 3 kinds, 2 rules and 2 productions.
func right() api.Table { return tab("s1 . r1 | - 1; acc r0 . | 0 -") }

func TestMayNotBe(t *testing.T) {
	likeCheck(t, right(), 3, 2, 2)
	if e := table.Check(right(), 3, 2, 2); e != api.OK {
		t.Fatal(e)
	}
	for what, wrong := range wrongTables() {
		x := right()
		wrong.turn(&x)
		if e := table.Check(x, 3, 2, 2); e != api.ErrTable {
			t.Error(what, e)
		}
		if p, e := table.Pack(x, 3, 2, 2); e != api.ErrTable || told(p) != told(api.Packed{}) {
			t.Error(what, p, e)
		}
		likeCheck(t, x, 3, 2, 2)
		want := api.ErrTable
		if wrong.isEven {
			want = api.OK
		}
		if _, e := table.Defaults(x); e != want {
			t.Error(what, e)
		}
		likeDefaults(t, x)
	}
}

// A number that may not be comes ahead of a table that may not be.
func TestNumbers(t *testing.T) {
	x := right()
	for _, n := range []struct {
		kinds, rules, prods int
		want                api.Errno
	}{
		{3, 2, 2, api.OK},
		{3, 2, 3, api.OK},
		{3, 2, 1, api.ErrTable},
		{3, 2, 0, api.ErrTable},
		{2, 2, 2, api.ErrTable},
		{4, 2, 2, api.ErrTable},
		{3, 1, 2, api.ErrTable},
		{3, 3, 2, api.ErrTable},
		{3, 0, 2, api.ErrTable},
		{1, 2, 2, api.ErrArg},
		{0, 2, 2, api.ErrArg},
		{-1, 2, 2, api.ErrArg},
		{math.MinInt, 2, 2, api.ErrArg},
		{3, -1, 2, api.ErrArg},
		{3, math.MinInt, 2, api.ErrArg},
		{3, 2, -1, api.ErrArg},
		{3, 2, math.MinInt, api.ErrArg},
		{1, -1, -1, api.ErrArg},
	} {
		if e := table.Check(x, n.kinds, n.rules, n.prods); e != n.want {
			t.Error(n, e)
		}
		if p, e := table.Pack(x, n.kinds, n.rules, n.prods); e != n.want || e != api.OK && told(p) != told(api.Packed{}) {
			t.Error(n, p, e)
		}
		if n.want != api.ErrArg {
			continue
		}
		for _, x := range []api.Table{{}, tab("."), tab(". . . | - -; ."), tab(". . . | 7 7")} {
			if e := table.Check(x, n.kinds, n.rules, n.prods); e != api.ErrArg {
				t.Error(n, x, e)
			}
			if p, e := table.Pack(x, n.kinds, n.rules, n.prods); e != api.ErrArg || told(p) != told(api.Packed{}) {
				t.Error(n, x, p, e)
			}
		}
	}
}

// A table of one kind alone is one that Defaults takes, but may not be.
func TestOneKind(t *testing.T) {
	x := tab("r0; .")
	likeDefaults(t, x)
	likeBytes(t, x)
	if _, e := table.Defaults(x); e != api.OK {
		t.Error(e)
	}
	if e := table.Check(x, 1, 0, 1); e != api.ErrArg {
		t.Error(e)
	}
}

// No productions, no rules: all else may be.
func TestNoProdsNoRules(t *testing.T) {
	x := tab("acc s1; . .")
	for _, x := range []api.Table{x, {Moves: x.Moves, Goto: make([][]int, 2)}, {Moves: x.Moves, Goto: [][]int{{}, nil}}} {
		if e := table.Check(x, 2, 0, 0); e != api.OK {
			t.Error(e)
		}
		likeCheck(t, x, 2, 0, 0)
		likePack(t, x, 2, 0, 0)
		likeDefaults(t, x)
		likeBytes(t, x)
	}
	x.Moves[1][1] = api.Move{Do: api.MoveReduce}
	if e := table.Check(x, 2, 0, 0); e != api.ErrTable {
		t.Error(e)
	}
	if e := table.Check(x, 2, 0, 1); e != api.OK {
		t.Error(e)
	}
	x.Goto = nil // no row at all is another thing than rows without rules
	if e := table.Check(x, 2, 0, 1); e != api.ErrTable {
		t.Error(e)
	}
	likeDefaults(t, x)
	likeBytes(t, x)
}

func TestDefaults(t *testing.T) {
	for text, want := range map[string]string{
		"r0 . r0":                        "r0 r0 r0",
		"r1 . .":                         "r1 r1 r1",
		". . .":                          ". . .",
		"s0 . acc":                       "s0 . acc",
		"s0 r3 .":                        "s0 r3 r3",
		"r2 r1 .":                        "r2 r1 r1",
		"r1 r2 .":                        "r1 r2 r1",
		"r2 r1 r2 .":                     "r2 r1 r2 r2",
		"r1 r2 r2 .":                     "r1 r2 r2 r2",
		"r3 r2 r3 r2 r1 .":               "r3 r2 r3 r2 r1 r2",
		"r3 r2 r3 r2 r1 r1 r3 .":         "r3 r2 r3 r2 r1 r1 r3 r3",
		"s1 s1 s1 s1 r1 .":               "s1 s1 s1 s1 r1 r1",
		"acc acc r0 . .":                 "acc acc r0 r0 r0",
		"r1 r0 r0":                       "r1 r0 r0",
		"r0 . | 1 -; . s1 | 0 0; . r1":   "", // unlike lengths
		"r0 . | 1 -; . s1 | 0 0":         "r0 r0 | 1 -; . s1 | 0 0",
		". r1 | -; r0 . | 1; . . | 2":    "r1 r1 | -; r0 r0 | 1; . . | 2",
		". . | -; r0 . | 1; . . | -":     ". . | -; r0 r0 | 1; . . | -",
		". r5 r5 r9 r9 | -; r5 r9 . . .": "",
	} {
		x := tab(text)
		y, e := table.Defaults(x)
		if want == "" {
			if e != api.ErrTable || told(y) != told(api.Table{}) {
				t.Error(text, y, e)
			}
		} else if e != api.OK || told(y) != told(tab(want)) {
			t.Error(text, y, e)
		}
		likeDefaults(t, x)
	}
}

// Defaults takes tables that may not be, too: what is no move's stays, and each MoveError is replaced.
func TestDefaultsOfOddTables(t *testing.T) {
	reduce := api.Move{Do: api.MoveReduce, N: -3}
	x := api.Table{Moves: [][]api.Move{{{Do: 7, N: 2}, {N: 5}, reduce, {Do: -1}}, {{N: 5}, {}, {Do: api.MoveAccept, N: 9}, {Do: api.MoveShift, N: -8}}}, Goto: [][]int{{-5}, {99}}}
	want := api.Table{Moves: [][]api.Move{{{Do: 7, N: 2}, reduce, reduce, {Do: -1}}, {{}, {}, {Do: api.MoveAccept, N: 9}, {Do: api.MoveShift, N: -8}}}, Goto: [][]int{{-5}, {99}}}
	y, e := table.Defaults(x)
	if e != api.OK || told(y) != told(want) {
		t.Error(y, e)
	}
	likeDefaults(t, x)
}

// Defaults of Defaults is Defaults.
func TestDefaultsTwice(t *testing.T) {
	m := newMaker(1001)
	turned := 0
	for range 2000 {
		x := m.table(2+m.Intn(4), m.Intn(3), 1+m.Intn(4))
		once, e := table.Defaults(x)
		twice, eTwice := table.Defaults(once)
		if e != api.OK || eTwice != api.OK || told(once) != told(twice) {
			t.Fatal(x, once, twice, e, eTwice)
		}
		if told(once) != told(x) {
			turned++
		}
	}
	if turned < 500 {
		t.Error("too few:", turned)
	}
}

// All tables of one state, two kinds, and one rule, with numbers from -2 to 2.
func TestAllSmallTables(t *testing.T) {
	var often [2]int
	for n := range 6 * 5 * 6 * 5 * 5 {
		digit := func(base int) int {
			d := n % base
			n /= base
			return d - base/2
		}
		x := api.Table{Moves: [][]api.Move{{{Do: digit(6) + 2, N: digit(5)}, {Do: digit(6) + 2, N: digit(5)}}}, Goto: [][]int{{digit(5)}}}
		for prods := range 3 {
			likeCheck(t, x, 2, 1, prods)
			likePack(t, x, 2, 1, prods)
			if wordMayBe(x, 2, 1, prods) {
				often[1]++
			} else {
				often[0]++
			}
		}
		likeDefaults(t, x)
		likeBytes(t, x)
	}
	if often[0] < 1000 || often[1] < 50 {
		t.Error(often)
	}
}

func TestSpoiltTables(t *testing.T) {
	m := newMaker(1002)
	var often [2]int
	for range 20000 {
		kinds, rules, prods := 2+m.Intn(3), m.Intn(3), m.Intn(4)
		x := m.table(kinds, rules, prods)
		for range 1 + m.Intn(2) {
			if len(x.Moves) > 0 {
				m.spoil(&x)
			}
		}
		kinds, rules, prods = m.about(kinds), m.about(rules), m.about(prods)
		kinds = max(2, kinds)
		likeCheck(t, x, kinds, rules, prods)
		likePack(t, x, kinds, rules, prods)
		likeDefaults(t, x)
		likeBytes(t, x)
		if wordMayBe(x, kinds, rules, prods) {
			often[1]++
		} else {
			often[0]++
		}
	}
	if slices.Min(often[:]) < 2000 {
		t.Error(often)
	}
}
