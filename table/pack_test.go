package table_test

import (
	"slices"
	"strings"
	"testing"

	"quoin/api"
	"quoin/table"
)

// P17.2: how rows are laid.

// packed is a table's, held against the words.
func packed(t *testing.T, x api.Table) api.Packed {
	t.Helper()
	p, e := table.Pack(x, len(x.Moves[0]), len(x.Goto[0]), api.MaxProds)
	if e != api.OK {
		t.Fatal(x, e)
	}
	likePack(t, x, len(x.Moves[0]), len(x.Goto[0]), api.MaxProds)
	return p
}

// shape is a table of shifts, or of Gotos, with an x where there is one.
func shape(rows string, isGoto bool) api.Table {
	var x api.Table
	states := len(strings.Fields(rows))
	for s, row := range strings.Fields(rows) {
		moves, to := make([]api.Move, len(row)), slices.Repeat([]int{-1}, len(row))
		for column, c := range row {
			if c == 'x' && isGoto {
				to[column] = (s + column) % states
			} else if c == 'x' {
				moves[column] = api.Move{Do: api.MoveShift, N: (s + column) % states}
			}
		}
		x.Moves, x.Goto = append(x.Moves, moves), append(x.Goto, to)
	}
	return x
}

// Rows of moves and rows of Goto are laid in one way: those with the most entries first, of these the least state, each at the least base at which it fits. There are at least as many places as columns.
func TestLay(t *testing.T) {
	for _, c := range []struct {
		rows         string
		bases, whose []int
	}{
		{"...", []int{0}, []int{-1, -1, -1}},
		{"... ...", []int{0, 0}, []int{-1, -1, -1}},
		{"x.. ...", []int{0, 0}, []int{0, -1, -1}},
		{"..x ...", []int{0, 0}, []int{-1, -1, 0}},
		{"xxx", []int{0}, []int{0, 0, 0}},
		{"xx xx", []int{0, 2}, []int{0, 0, 1, 1}},
		{"x. xx", []int{2, 0}, []int{1, 1, 0}},
		{".x xx", []int{1, 0}, []int{1, 1, 0}},
		{"x. .x x. .x", []int{0, 0, 2, 2}, []int{0, 1, 2, 3}},
		{".x .x x. x.", []int{0, 1, 0, 3}, []int{2, 0, 1, 3}},
		{"x.. .xx", []int{0, 0}, []int{0, 1, 1}},
		{"x.x .x.", []int{0, 0}, []int{0, 1, 0}},
		{"x.x x..", []int{0, 1}, []int{0, 1, 0}},
		{"x.x .x. xx.", []int{0, 0, 3}, []int{0, 1, 0, 2, 2}},
		{"... xxx ...", []int{0, 0, 0}, []int{1, 1, 1}},
		{"..x x.x xxx", []int{2, 3, 0}, []int{2, 2, 2, 1, 0, 1}},
		{"x...x .xxx. x....", []int{0, 0, 5}, []int{0, 1, 1, 1, 0, 2}},
		{"x...x .xxx. ....x", []int{0, 0, 1}, []int{0, 1, 1, 1, 0, 2}},
	} {
		for _, isGoto := range []bool{false, true} {
			p := packed(t, shape(c.rows, isGoto))
			bases, whose, other := p.Base, p.Check, p.GotoCheck
			if isGoto {
				bases, whose, other = p.GotoBase, p.GotoCheck, p.Check
			}
			if !slices.Equal(bases, c.bases) || !slices.Equal(whose, c.whose) || slices.Max(other) != -1 || len(other) != len(strings.Fields(c.rows)[0]) {
				t.Error(c.rows, isGoto, bases, whose, other)
			}
		}
	}
}

// Where nothing stands there is nothing: MoveError, and 0 in GotoCell; where something does it is the row's.
func TestCells(t *testing.T) {
	p := packed(t, tab("s1 . r1 . s0 | - 1 -; . acc . r0 r0 | - - 0"))
	want := api.Packed{
		Kinds: 5, Rules: 3,
		Default:   []api.Move{{Do: api.MoveReduce, N: 1}, {Do: api.MoveReduce, N: 0}},
		Base:      []int{0, 0},
		Check:     []int{0, 1, -1, -1, 0},
		Cell:      []api.Move{{Do: api.MoveShift, N: 1}, {Do: api.MoveAccept}, {}, {}, {Do: api.MoveShift}},
		GotoBase:  []int{0, 0},
		GotoCheck: []int{-1, 0, 1},
		GotoCell:  []int{0, 1, 0},
	}
	if told(p) != told(want) {
		t.Errorf("%+v", p)
	}
}

// What is a state's default is no entry, and no error is; a reduction that is not the default is one.
func TestEntries(t *testing.T) {
	for moves, entries := range map[string]int{
		". . . .":       0,
		"r0 r0 r0 r0":   0,
		"r0 . . r0":     0,
		"r0 r1 . r0":    1,
		"r1 r0 . .":     1,
		"r1 r0 r2 .":    2,
		"s0 s0 s0 s0":   4,
		"acc . . .":     1,
		"acc r0 s0 r1":  3,
		"s0 r0 r0 acc":  2,
		"r3 r3 r2 r2":   2,
		"r3 r2 r2 r3":   2,
		"r3 r3 r3 r2":   1,
		"acc acc s0 s0": 4,
	} {
		p := packed(t, tab(moves))
		n := 0
		for _, s := range p.Check {
			n += s + 1
		}
		if n != entries || len(p.Check) != 4 || p.Base[0] != 0 {
			t.Error(moves, p)
		}
	}
}

// A way of counting: entries of the default are none, so that a row with less moves may come first.
func TestMostEntriesFirst(t *testing.T) {
	p := packed(t, tab("r0 r0 r0 r0 s0; . . s0 s1 .; . s0 . . acc; s1 . . . ."))
	if !slices.Equal(p.Base, []int{1, 0, 0, 0}) || !slices.Equal(p.Check, []int{3, 2, 1, 1, 2, 0}) {
		t.Error(p.Base, p.Check)
	}
}

func TestPackedTables(t *testing.T) {
	m := newMaker(1010)
	for range 6000 {
		kinds, rules, prods := 2+m.Intn(6), m.Intn(5), m.Intn(5)
		likePack(t, m.table(kinds, rules, prods), kinds, rules, prods)
	}
}

// Long rows, in which places are far from one another.
func TestWideTables(t *testing.T) {
	m := newMaker(1011)
	for range 150 {
		kinds, rules := 2+m.Intn(300), 1+m.Intn(300)
		var x api.Table
		each := 1 + m.Intn(6)
		for range 2 + m.Intn(12) {
			row, to := make([]api.Move, kinds), slices.Repeat([]int{-1}, rules)
			for range kinds / each {
				row[m.Intn(kinds)] = m.move(2, 3)
			}
			for range rules / each {
				to[m.Intn(rules)] = m.Intn(2)
			}
			x.Moves, x.Goto = append(x.Moves, row), append(x.Goto, to)
		}
		packed(t, x)
	}
}

// Rows of one entry each fill the places one behind the other, over all bounds of how places are kept.
func TestManyRows(t *testing.T) {
	var x api.Table
	for s := range 300 {
		row, to := make([]api.Move, 70), slices.Repeat([]int{-1}, 130)
		row[s%2*69], to[s%3*64] = api.Move{Do: api.MoveShift, N: s}, s
		x.Moves, x.Goto = append(x.Moves, row), append(x.Goto, to)
	}
	packed(t, x)
}

func TestSolvedTables(t *testing.T) {
	m := newMaker(1012)
	most := 0
	for range 600 {
		g := m.plain(12, 3, 4)
		x, _ := m.solved(t, g)
		likePack(t, x, len(g.Kinds), len(g.Rules), len(g.Prods))
		likeDefaults(t, x)
		likeBytes(t, x)
		most = max(most, len(x.Moves))
	}
	if most < 40 {
		t.Error("too small:", most)
	}
}
