package table_test

import (
	"slices"
	"testing"

	"quoin/api"
	"quoin/derive"
	"quoin/gram"
	"quoin/items"
	"quoin/pager"
	"quoin/solve"
	"quoin/table"
)

// What follows, P17.5 to P17.8.

// outcome is how a parse ends: its tree, if it accepts; how many kinds it took; whether it makes too many moves.
type outcome struct {
	tree              api.Deriv
	at                int
	isTaken, isTooFar bool
}

// parse goes by a table along a row.
func parse(g api.Plain, x api.Table, row ...int) outcome {
	row = append(slices.Clone(row), api.KindEnd)
	stack, trees := []int{0}, []api.Deriv(nil)
	var o outcome
	for range 500 {
		switch m := x.Moves[stack[len(stack)-1]][row[o.at]]; m.Do {
		case api.MoveError:
			return o
		case api.MoveAccept:
			o.tree, o.isTaken = trees[0], true
			return o
		case api.MoveShift:
			if o.at == len(row)-1 { // by the end, in a table that was turned: there is nothing behind
				return o
			}
			stack, trees = append(stack, m.N), append(trees, api.Deriv{Prod: -1, Tok: o.at})
			o.at++
		case api.MoveReduce:
			p := g.Prods[m.N]
			ahead := len(trees) - len(p.Right)
			d := api.Deriv{Prod: m.N, Kids: slices.Clone(trees[ahead:])}
			stack, trees = stack[:ahead+1], append(trees[:ahead], d)
			stack = append(stack, x.Goto[stack[ahead]][p.Left])
		}
	}
	o.isTooFar = true
	return o
}

// rowsOf are all rows of a grammar's kinds, the end left out, that are at most so long.
func rowsOf(g api.Plain, most int) [][]int {
	l := [][]int{nil}
	for at := 0; at < len(l) && len(l[at]) < most; at++ {
		for kind := 1; kind < len(g.Kinds); kind++ {
			l = append(l, append(slices.Clone(l[at]), kind))
		}
	}
	return l
}

// automata are those of a grammar that layers 14 and 15 make.
func automata(t *testing.T, g api.Plain) []api.Auto {
	t.Helper()
	a, e := items.Build(g)
	merged, eMerged := pager.Build(g)
	lalr, eLalr := pager.Lalr(g)
	if e != api.OK || eMerged != api.OK || eLalr != api.OK {
		t.Fatal(text(g), e, eMerged, eLalr)
	}
	return []api.Auto{a, merged, lalr}
}

func TestUnpackOfPack(t *testing.T) {
	m := newMaker(1070)
	defaults := 0
	for range 1500 {
		g := m.grammar()
		x, _ := m.solved(t, g)
		p, e := table.Pack(x, len(g.Kinds), len(g.Rules), len(g.Prods))
		y, eUnpack := table.Unpack(p)
		z, eDefaults := table.Defaults(x)
		if e != api.OK || eUnpack != api.OK || eDefaults != api.OK || told(y) != told(z) {
			t.Fatal(text(g), y, z, e, eUnpack, eDefaults)
		}
		if told(z) != told(x) {
			defaults++
		}
		again, e := table.Pack(z, len(g.Kinds), len(g.Rules), len(g.Prods))
		if e != api.OK || told(again) != told(p) {
			t.Fatal(text(g), again, p, e)
		}
	}
	if defaults < 500 {
		t.Error("too few:", defaults)
	}
}

// mayRing tells whether a grammar has a rule that makes the empty row, or itself: only there can moves be made without end at one token.
func mayRing(t *testing.T, g api.Plain) bool {
	t.Helper()
	r, e := gram.Look(g)
	if e != api.OK {
		t.Fatal(text(g), e)
	}
	return slices.Contains(r.Nullable, true) || slices.Contains(r.Cyclic, true)
}

// With defaults the same rows are taken, by the same derivations, and errors are told at the same tokens, where no clash was won by an error. Only where moves lead in a ring a parse with defaults may go on for ever.
func TestDefaultsAreSafe(t *testing.T) {
	m := newMaker(1071)
	var often struct{ taken, told, far, further int }
	for range 1200 {
		g := m.grammar()
		for _, a := range automata(t, g) {
			x, l, e := solve.Solve(g, a)
			if e != api.OK {
				t.Fatal(text(g), e)
			}
			if slices.ContainsFunc(l, func(c api.Clash) bool { return c.Won.Do == api.MoveError }) {
				continue
			}
			y, e := table.Defaults(x)
			if e != api.OK {
				t.Fatal(text(g), e)
			}
			for _, row := range rowsOf(g, 7-len(g.Kinds)) {
				one, other := parse(g, x, row...), parse(g, y, row...)
				switch {
				case one.isTooFar && other.isTooFar:
					often.far++
				case other.isTooFar:
					if !mayRing(t, g) {
						t.Fatal(text(g), row, one, other)
					}
					often.further++
				case told(one) != told(other):
					t.Fatal(text(g), row, one, other)
				case one.isTaken:
					often.taken++
				default:
					often.told++
				}
			}
		}
	}
	if often.taken < 1500 || often.told < 20000 {
		t.Errorf("%+v", often)
	}
}

// Each table that layer 16 makes of an automaton of layers 14 and 15 is sound, whatever clashes there are; so is it where a state is there once more.
func TestSolvedAreSound(t *testing.T) {
	m := newMaker(1072)
	clashes := 0
	for range 1500 {
		g := m.grammar()
		for n, a := range automata(t, g) {
			for _, a := range []api.Auto{a, m.again(a)} {
				x, l, e := solve.Solve(g, a)
				if n, eSound := table.Sound(g, x); e != api.OK || n != 0 || eSound != api.OK {
					t.Fatal(text(g), a, n, e, eSound)
				}
				if len(l) > 0 {
					clashes++
				}
				if n == 1 && len(x.Moves) < 20 {
					likeSound(t, g, x)
				}
			}
		}
	}
	if clashes < 500 {
		t.Error("too few:", clashes)
	}
}

// So is it with defaults: a state reduces at more kinds by what it reduced by already.
func TestDefaultsAreSound(t *testing.T) {
	m := newMaker(1073)
	for range 1500 {
		g := m.grammar()
		x, _ := m.solved(t, g)
		y, e := table.Defaults(x)
		if n, eSound := table.Sound(g, y); e != api.OK || n != 0 || eSound != api.OK {
			t.Fatal(text(g), y, n, e, eSound)
		}
	}
}

// derivesAll tells how many rows a table takes: each one has the derivation that the table made.
func derivesAll(t *testing.T, g api.Plain, x api.Table, most int) int {
	t.Helper()
	taken := 0
	for _, row := range rowsOf(g, most) {
		if o := parse(g, x, row...); o.isTaken {
			if !derive.Check(g, o.tree, row...) {
				t.Fatal(text(g), x, row, o.tree)
			}
			taken++
		}
	}
	return taken
}

// Whatever a parser takes by a table that is sound has a derivation, though nobody made the table of the grammar: tables are turned again and again, as long as they are sound.
func TestSoundMakesDerivations(t *testing.T) {
	m := newMaker(1074)
	turned, taken := 0, 0
	for range 3000 {
		g := m.grammar()
		x, _ := m.solved(t, g)
		was := told(x)
		for range 1 + m.Intn(30) {
			y := clone(x)
			m.turn(&y, len(g.Prods))
			if _, e := table.Sound(g, y); e == api.OK {
				x = y
			}
		}
		if told(x) != was {
			turned++
			taken += derivesAll(t, g, x, 7-len(g.Kinds))
		}
	}
	if turned < 1500 || taken < 300 {
		t.Error(turned, taken)
	}
}

// Tables of one grammar are seldom sound for another one: if they are, its rows are derived by it.
func TestSoundForAnother(t *testing.T) {
	m := newMaker(1076)
	var often [2]int
	for range 3000 {
		g := m.plain(2, 2, 2)
		x, _ := m.solved(t, g)
		other := clone(g)
		for n := range other.Prods {
			if right := other.Prods[n].Right; m.Intn(3) == 0 && len(right) > 0 {
				right[m.Intn(len(right))] = m.symbol(g, 2)
			}
		}
		if n, e := table.Sound(other, x); e != api.OK {
			if e != api.ErrTable || n != max(0, wordSound(other, x)) {
				t.Fatal(text(other), x, n, e)
			}
			often[0]++
			continue
		}
		often[1]++
		derivesAll(t, other, x, 6-len(g.Kinds))
	}
	if slices.Min(often[:]) < 300 {
		t.Error(often)
	}
}

// What is not sound may take a row without a derivation, and so is told.
func TestUnsoundMakesNone(t *testing.T) {
	for _, c := range []struct {
		grammar, table, row string
		state               int
	}{
		{"S = a b", ". . s1 . | 3; acc . . s2 | -; r0 . . . | -; acc . . . | -", "a", 1},                  // behind a kind
		{"S = A b; A = a", ". . s1 . | - 2; r1 . . . | - -; acc . . . | - -", "a", 2},                     // behind another rule
		{"S = a; b", ". . s1 . | 2; . . . r0 | -; . . . acc | -", "a b", 2},                               // ahead of the end
		{"S = a", ". . s1 | 2; r0 . r0 | -; acc . s1 | 2", "a a", 2},                                      // behind two of them
		{"S = a b; S = a", ". . s1 s2 | 3; r1 . . . | -; r1 . . . | -; acc . . . | -", "b", 2},            // another kind is reduced
		{"S = a A; A = a", ". . s1 | 3 2; r1 . s1 | - 2; r0 . . | - -; acc . . | - -", "", 2},             // A is there behind no a, too
		{"S = A; A = a; B = a", ". . s1 | 3 2 2; r2 . . | - - -; r0 . . | - - -; acc . . | - - -", "", 2}, // two rules lead to one state
	} {
		g, x := read(c.grammar), tab(c.table)
		asSound(t, c.table, g, x, c.state)
		if c.row == "" {
			continue
		}
		row := symbols(g, c.row)
		if n, e := derive.Count(g, row...); n != 0 || e != api.OK || !parse(g, x, row...).isTaken {
			t.Error("the test is wrong:", c.grammar, c.row, n, e)
		}
	}
}

func TestReadOfBytes(t *testing.T) {
	m := newMaker(1077)
	for range 1500 {
		x, _ := m.solved(t, m.grammar())
		b, e := table.Bytes(x)
		y, f := table.Read(b)
		if e != api.OK || f != (api.Fault{}) || told(y) != told(x) {
			t.Fatal(x, b, y, e, f)
		}
	}
}
