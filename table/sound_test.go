package table_test

import (
	"slices"
	"testing"

	"quoin/api"
	"quoin/table"
)

// P17.3: which tables make derivations alone.

const isSound = -1

// asSound holds Sound at a state that is wrong, or none.
func asSound(t *testing.T, what string, g api.Plain, x api.Table, want int) {
	t.Helper()
	n, e := table.Sound(g, x)
	if want == isSound && (n != 0 || e != api.OK) || want != isSound && (n != want || e != api.ErrTable) {
		t.Errorf("%s: %d, %v, not %d", what, n, e, want)
	}
	if table.Check(x, len(g.Kinds), len(g.Rules), len(g.Prods)) == api.OK {
		likeSound(t, g, x)
	}
}

// One production of one kind: what stands in its three states, and in others.
func TestOneKindAlone(t *testing.T) {
	g := read("S = a")
	for text, want := range map[string]int{
		". . s1 | 2; r0 . . | -; acc . . | -":                                 isSound,
		". . s1 | 2; r0 r0 r0 | -; acc . . | -":                               isSound,
		". . s1 | 2; . . . | -; . . . | -":                                    isSound,
		". . . | -; . . . | -; . . . | -":                                     isSound,
		". . s1 | 2; r0 . s2 | 2; acc . . | -":                                2, // a a leads to 2
		". . s1 | -; r0 . . | -; acc . . | -":                                 1, // no Goto ahead
		". . s1 | 2; r0 . . | 1; acc . . | -":                                 1, // a S leads there, too
		". . s1 | 2; r0 . . | -; acc . . | 2":                                 2, // S S leads to the acceptance
		". . s1 | 2; r0 . . | -; acc . s1 | -":                                1, // behind S a there is no Goto
		". . s1 | 2; r0 . . | -; acc . s0 | -":                                2, // S a leads to 0, and S a S to the acceptance
		". . s0 | 2; . . . | -; acc . . | -":                                  2, // and so does a S
		". . s1 | 2; r0 . . | -; . acc . | -":                                 2,
		". . s1 | 2; r0 . . | -; . . acc | -":                                 2,
		". . s1 | 2; r0 . . | -; acc acc . | -":                               2,
		". . s1 | 2; acc . . | -; acc . . | -":                                1,
		"acc . s1 | 2; r0 . . | -; acc . . | -":                               0,
		"r0 . s1 | 2; r0 . . | -; acc . . | -":                                0,
		". . s1 | 2; r0 . . | -; r0 . . | -":                                  2,
		". . s1 | 2; r0 . . | -; acc . . | -; acc acc r0 | 0":                 isSound, // no way leads there
		". . s1 | 2; r0 . . | -; acc . . | 3; . . . | -":                      isSound,
		". . s1 | 2; r0 . . | -; acc . . | 3; acc . . | -":                    3,
		". . s1 | 2; r0 . . | 3; acc . . | -; . r0 . | -":                     3,
		". . s1 | 2; r0 . s3 | -; acc . . | -; r0 . . | -":                    3, // ahead of the last a there is no Goto
		". . s1 | 2; r0 . s3 | 4; acc . . | -; r0 . . | -; . . . | -":         isSound,
		". . s1 | 2; r0 . s3 | 2; acc . . | -; . . . | -":                     2, // a S leads there, too
		". . s3 | 1; acc . . | -; . . s1 | 0; r0 r0 r0 | -; r0 . acc | 0":     isSound,
		". . s3 | 1; r0 . s4 | -; acc r0 acc | 2; acc . . | -; r0 acc r0 | 1": 1, // the least of three
		". . s4 | 3; acc . . | -; r0 . acc | -; . . s2 | -; r0 . acc | 0":     2, // 4 is met ahead of it
	} {
		asSound(t, text, g, tab(text), want)
	}
}

// An empty right side: nothing is asked of the ways, but the state itself has a Goto.
func TestEmptyRight(t *testing.T) {
	g := read("S =; a")
	for text, want := range map[string]int{
		"r0 . . | 1; acc . . | -":                        isSound,
		"r0 r0 r0 | 1; acc . . | -":                      isSound,
		"r0 . . | -; acc . . | -":                        0,
		". . s2 | 1; acc . . | -; r0 . . | -":            2,
		". . s2 | 1; acc . . | -; r0 . . | 3; . . . | -": isSound,
		"r0 . . | 1; acc r0 . | -":                       1,
		"r0 . s0 | 2; acc . . | -; . . . | -":            isSound, // 0 has itself ahead
		"r0 . s0 | 1; acc . . | -":                       1,
		"r0 . . | 0; . . . | -":                          isSound, // it never ends, and takes nothing
		"r0 . . | 0; acc . . | -":                        isSound,
		"acc . . | 0":                                    0,
		"r0 . . | 1; acc . . | -; r0 r0 . | -":           isSound,
		"r0 . . | 1; acc . s2 | -; r0 r0 . | -":          2,
	} {
		asSound(t, text, g, tab(text), want)
	}
}

// Longer rows: each way to the state ends with them, and none is shorter.
func TestAllWays(t *testing.T) {
	g := read("S = A b b; A = a; A =; B = b b")
	if told(g.Kinds) != told([]string{"end", "error", "a", "b"}) || told(g.Rules) != told([]string{"S", "A", "B"}) {
		t.Fatal("the test is wrong")
	}
	const (
		first = ". . s1 . | 5 2 -; . . . r1 | - - -; . . . s3 | - - -; . . . s4 | - - -; "
		last  = "; acc . . . | - - -"
	)
	for text, want := range map[string]int{
		first + "r0 . . . | - - -" + last:  isSound,
		first + "r2 . . . | - 2 -" + last:  isSound, // A = .: at any place from which A leads on
		first + "r3 . . . | - - -" + last:  4,       // behind A there is no Goto of B
		first + "r1 . . . | - - -" + last:  4,
		first + "r0 r3 . . | - - -" + last: 4,
		// A = . in 0, so that b b stands behind nothing, too
		". . s1 s3 | 5 2 -; . . . r1 | - - -; . . . s3 | - - -; . . . s4 | - - -; r0 . . . | - - -" + last: 4,
		// b as often as one likes: A b b is at the end of one of the ways
		". . s1 . | 5 2 -; . . . r1 | - - -; . . . s3 | - - -; . . . s4 | - - -; r0 . . s4 | - - -" + last: 4,
		// two states of A, each with its own Goto behind
		". . s1 . | 5 2 -; . . . r1 | 6 - -; . . . s3 | - - -; . . . s4 | - - -; r0 . . . | - - -; acc . . . | - - -; . . . s3 | - - -": 4, // by S, not by A, to 6
		". . s1 . | 5 2 -; . . . r1 | 5 6 -; . . . s3 | - - -; . . . s4 | - - -; r0 . . . | - - -; . . . . | - - -; . . . s3 | - - -":   isSound,
		". . s1 . | 5 2 -; . . . r1 | - 6 -; . . . s3 | - - -; . . . s4 | - - -; r0 . . . | - - -; . . . . | - - -; . . . s3 | - - -":   4, // behind a and ahead of A there is no Goto of S
		". . s1 . | - 2 -; . . . r1 | 5 6 -; . . . s3 | - - -; . . . s4 | - - -; r0 . . . | - - -; . . . . | - - -; . . . s3 | - - -":   4, // in 0 there is none
	} {
		asSound(t, text, g, tab(text), want)
	}
}

// A state reduces by several productions, each of which is looked at.
func TestSeveralReductions(t *testing.T) {
	g := read("S = A; A = a; B = a; C = c a; S = c A")
	for text, want := range map[string]int{
		". . s1 . | 2 3 - -; r1 r1 . . | - - - -; acc . . . | - - - -; r0 . . . | - - - -":                                                                                   isSound,
		". . s1 . | 2 3 - -; r1 r2 . . | - - - -; acc . . . | - - - -; r0 . . . | - - - -":                                                                                   1,
		". . s1 . | 2 3 0 -; r1 r2 . . | - - - -; acc . . . | - - - -; r0 . . . | - - - -":                                                                                   2, // B S leads to the acceptance
		". . s1 . | 2 3 4 -; r1 r2 . . | - - - -; acc . . . | - - - -; r0 . . . | - - - -; . . . . | - - - -":                                                                isSound,
		". . s1 . | 2 3 4 -; r1 r2 r3 . | - - - -; acc . . . | - - - -; r0 . . . | - - - -; . . . . | - - - -":                                                               1,
		". . s1 s5 | 2 3 4 4; r1 r2 . . | - - - -; acc . . . | - - - -; r0 . . . | - - - -; . . . . | - - - -; . . s1 . | - 3 4 -":                                           3, // c A leads to where S = A ends
		". . s1 s5 | 2 3 4 4; r1 r2 . . | - - - -; acc . . . | - - - -; r0 . . . | - - - -; . . . . | - - - -; . . s1 . | - 6 4 -; r4 . . . | - - - -":                       isSound,
		". . s1 s5 | 2 3 4 4; r1 r2 . . | - - - -; acc . . . | - - - -; r0 . . . | - - - -; . . . . | - - - -; . . s1 . | - 6 - -; r4 . . . | - - - -":                       1, // behind c there is no Goto of B
		". . s1 s5 | 2 3 4 4; r1 r3 . . | - - - -; acc . . . | - - - -; r0 . . . | - - - -; . . . . | - - - -; . . s1 . | - 6 4 -; r4 . . . | - - - -":                       1, // C = c a: without c, too
		". . s1 s5 | 2 3 4 4; r1 r2 . . | - - - -; acc . . . | - - - -; r0 . . . | - - - -; . . . . | - - - -; . . s7 . | - 6 4 -; r4 . . . | - - - -; r1 r2 r3 . | - - - -": isSound,
		". . s1 s5 | 2 3 4 -; r1 r2 . . | - - - -; acc . . . | - - - -; r0 . . . | - - - -; . . . . | - - - -; . . s7 . | - 6 4 -; r4 . . . | - - - -; r1 r2 r3 . | - - - -": 7,
	} {
		asSound(t, text, g, tab(text), want)
	}
}

// A start that is not the first rule: it alone is accepted.
func TestAnotherStart(t *testing.T) {
	g := read("A = S; S = a")
	for start, want := range map[int]int{0: 3, 1: isSound} {
		g.Start = start
		asSound(t, "accepts S", g, tab(". . s1 | 2 3; r1 . . | - -; . . . | - -; acc . . | - -"), want)
	}
	g.Start = 0
	asSound(t, "accepts A", g, tab(". . s1 | 2 3; r1 . . | - -; acc . . | - -; r0 . . | - -"), isSound)
	asSound(t, "accepts a", read("S = a; a"), tab(". . s1 | 2; acc . . | -; . . . | -"), 1)
	g = read("S = a; A")
	asSound(t, "a rule of the same place", g, tab(". s2 s1 | 2 -; r0 . . | - -; acc . . | - -"), 2) // error leads there, too
}

// A row as long as may be, at the end of a way that is as long, and of one that is longer or shorter by one.
func TestLongRow(t *testing.T) {
	g := read("S = a; A = a")
	g.Prods[0].Right = slices.Repeat([]int{2}, api.MaxRight)
	for _, length := range []int{1, api.MaxRight - 1, api.MaxRight, api.MaxRight + 1} {
		var x api.Table
		for s := range length + 2 {
			row, to := make([]api.Move, 3), []int{-1, -1}
			if s < length {
				row[2] = api.Move{Do: api.MoveShift, N: s + 1}
			}
			if s == 0 || s == 1 {
				to[0] = length + 1
			}
			x.Moves, x.Goto = append(x.Moves, row), append(x.Goto, to)
		}
		x.Moves[length][0] = api.Move{Do: api.MoveReduce}
		want := isSound
		if length < api.MaxRight {
			want = length
		}
		asSound(t, "a row of 64", g, x, want)
		if length <= api.MaxRight {
			continue
		}
		x.Goto[1][0] = -1
		asSound(t, "a way of 65", g, x, length)
	}
}

// ErrPlain comes ahead of ErrTable, and that ahead of what is not so.
func TestNoTable(t *testing.T) {
	g := read("S = a")
	x := tab(". . s1 | 2; r0 . . | -; acc . . | -")
	for what, wrong := range wrongTables() {
		y := tab(". . s1 | 2; r0 . . | -; acc . . | -")
		y.Goto[0], y.Goto[1], y.Goto[2] = []int{2, -1}, []int{-1, -1}, []int{-1, -1}
		two := read("S = a; A = a")
		wrong.turn(&y)
		if wordMayBe(y, 3, 2, 2) {
			continue
		}
		asSound(t, what, two, y, 0)
		two.Start = 2
		if n, e := table.Sound(two, y); n != 0 || e != api.ErrPlain {
			t.Error(what, n, e)
		}
	}
	for what, turn := range turnings() {
		g := read("S = A b; A = a")
		x := solved(t, g)
		if n, e := table.Sound(g, x); n != 0 || e != api.OK {
			t.Fatal("the test is wrong:", n, e)
		}
		turn(&g)
		for _, x := range []api.Table{x, {}, tab(". ."), tab("acc acc acc acc | - -")} {
			if n, e := table.Sound(g, x); n != 0 || e != api.ErrPlain {
				t.Error(what, n, e)
			}
		}
	}
	for other, want := range map[string]int{"S = a; b": 0, "S = a; A": 0, "S = S; a": 1, "S; a": 0} {
		asSound(t, other, read(other), x, want)
	}
	g.Prods = nil
	asSound(t, "no productions", g, x, 0)
	asSound(t, "no productions, no reductions", g, tab(". . s1 | 2; . . . | -; acc . . | -"), isSound)
}

// All tables of two states and two kinds, of small grammars.
func TestAllTablesOfTwoStates(t *testing.T) {
	var often [2]int
	for _, grammar := range []string{"S = error", "S =", "S = S", "S = error error", "S = S error", "S = error; S =", "S"} {
		g := read(grammar)
		moves := []api.Move{{}, {Do: api.MoveShift}, {Do: api.MoveShift, N: 1}, {Do: api.MoveAccept}}
		for prod := range g.Prods {
			moves = append(moves, api.Move{Do: api.MoveReduce, N: prod})
		}
		count := len(moves) * len(moves) * len(moves) * len(moves) * 9
		for n := range count {
			digit := func(base int) int {
				d := n % base
				n /= base
				return d
			}
			x := tab(". . | -; . . | -")
			for s := range 2 {
				for kind := range 2 {
					x.Moves[s][kind] = moves[digit(len(moves))]
				}
				x.Goto[s][0] = digit(3) - 1
			}
			if likeSound(t, g, x) {
				often[1]++
			} else {
				often[0]++
			}
		}
	}
	if slices.Min(often[:]) < 3000 {
		t.Error(often)
	}
}

// Any tables that may be.
func TestSoundByChance(t *testing.T) {
	m := newMaker(1030)
	var often [2]int
	for range 20000 {
		g := m.plain(1+m.Intn(3), 2, 1+m.Intn(3))
		x := m.table(len(g.Kinds), len(g.Rules), len(g.Prods))
		for s := range x.Moves { // few moves, so that some are sound
			for kind := range x.Moves[s] {
				if do := x.Moves[s][kind].Do; m.Intn(4) > 0 && do != api.MoveShift {
					x.Moves[s][kind] = api.Move{}
				}
			}
		}
		if likeSound(t, g, x) {
			often[1]++
		} else {
			often[0]++
		}
	}
	if slices.Min(often[:]) < 2000 {
		t.Error(often)
	}
}

// Tables that were sound, with something turned: some still are.
func TestTurnedTables(t *testing.T) {
	m := newMaker(1031)
	var often [2]int
	last := 0
	for range 4000 {
		g := m.grammar()
		x, _ := m.solved(t, g)
		if len(x.Moves) > 30 {
			continue
		}
		for range 1 + m.Intn(3) {
			m.turn(&x, len(g.Prods))
		}
		if likeSound(t, g, x) {
			often[1]++
		} else {
			often[0]++
			if n, _ := table.Sound(g, x); n > 2 {
				last++
			}
		}
	}
	if slices.Min(often[:]) < 500 || last < 300 {
		t.Error(often, last)
	}
}
