package gram_test

import (
	"math"
	"slices"
	"testing"

	"quoin/api"
	"quoin/gram"
)

// C1 and C8: First of rows.

// begins holds First of a row against kinds; the row and they are told by names.
func begins(t *testing.T, g api.Plain, row, want string, wantEmpty bool) {
	t.Helper()
	l, isEmpty, e := gram.First(g, symbols(g, row)...)
	if e != api.OK || names(g, l) != want || isEmpty != wantEmpty {
		t.Errorf("%q: %s, %v, %v", row, names(g, l), isEmpty, e)
	}
}

func TestFirstOfRows(t *testing.T) {
	g := read("S = A b; A = a A; A =; B = c; B = A; C = error; C = C d; D = D a; E; F = F; F = B F")
	begins(t, g, "", "", true)
	begins(t, g, "a", "a", false)
	begins(t, g, "error", "error", false)
	begins(t, g, "b a", "b", false)
	begins(t, g, "error A", "error", false)
	begins(t, g, "S", "a b", false)
	begins(t, g, "A", "a", true)
	begins(t, g, "A A", "a", true)
	begins(t, g, "A A error b", "error a", false)
	begins(t, g, "A B", "a c", true)
	begins(t, g, "B A C d", "error a c", false)
	begins(t, g, "B A S C", "a b c", false)
	begins(t, g, "C a", "error", false)
	begins(t, g, "D", "", false)
	begins(t, g, "D b", "", false)
	begins(t, g, "A D b", "a", false)
	begins(t, g, "E", "", false)
	begins(t, g, "B E C", "a c", false)
	begins(t, g, "F", "a c", false)
	begins(t, g, "d c b a", "d", false)
	g.Start = 5 // First of a rule does not hang on the start
	begins(t, g, "S", "a b", false)
}

func TestNoSymbols(t *testing.T) {
	g := read("S = A b; A = a A; A =")
	for _, n := range []int{math.MinInt, -1, api.KindEnd, 6, 7, math.MaxInt} {
		for _, row := range [][]int{{n}, {n, 2}, {2, n}, {5, n}, {5, 5, 3, 3, n, 3}, {n, n}} {
			if l, isEmpty, e := gram.First(g, row...); e != api.ErrArg || len(l) > 0 || isEmpty {
				t.Error(row, l, isEmpty, e)
			}
		}
	}
	for n := 1; n < 6; n++ {
		if _, _, e := gram.First(g, n, n); e != api.OK {
			t.Error(n, e)
		}
	}
}

func TestLongRows(t *testing.T) {
	g := read("S = A b; A = a A; A =")
	row := slices.Repeat([]int{5}, 100000)
	if l, isEmpty, e := gram.First(g, row...); e != api.OK || !slices.Equal(l, []int{2}) || !isEmpty {
		t.Error(l, isEmpty, e)
	}
	if l, isEmpty, e := gram.First(g, append(row, 1, 3)...); e != api.OK || !slices.Equal(l, []int{1, 2}) || isEmpty {
		t.Error(l, isEmpty, e)
	}
	if l, isEmpty, e := gram.First(g, append(row, 0)...); e != api.ErrArg || len(l) > 0 || isEmpty {
		t.Error(l, isEmpty, e)
	}
}

// By the rows that a row makes, and, of greater grammars, by the first symbol and the rest.
func TestFirstByChance(t *testing.T) {
	m := newMaker(505)
	for n := range 4000 {
		g := m.plain(1+m.Intn(6), 2, 3)
		isSmall := len(g.Rules) <= 2 && n%4 == 0
		if isSmall {
			g = m.plain(2, 2, 2)
		}
		var row []int
		for range m.Intn(4) {
			row = append(row, m.symbol(g, 1))
		}
		l, isEmpty, e := gram.First(g, row...)
		want, wantEmpty := firstOf(g, row, wordFirst(g), wordNullable(g))
		if e != api.OK || !slices.Equal(l, want) || isEmpty != wantEmpty {
			t.Fatal(wordLines(g), names(g, row), names(g, l), isEmpty, e)
		}
		if isSmall {
			rows := made(g, 7, row...)
			if !slices.Equal(l, beginning(g, rows)) || isEmpty != rows[""] {
				t.Fatal(wordLines(g), names(g, row), names(g, l), isEmpty)
			}
		}
		if len(row) > 0 {
			followsFromRest(t, g, row)
		}
	}
}

// followsFromRest is C8.
func followsFromRest(t *testing.T, g api.Plain, row []int) {
	t.Helper()
	all, isEmpty, _ := gram.First(g, row...)
	first, firstEmpty, _ := gram.First(g, row[0])
	rest, restEmpty, _ := gram.First(g, row[1:]...)
	if firstEmpty {
		addTo(&first, rest)
	}
	if !slices.Equal(all, first) || isEmpty != (firstEmpty && restEmpty) {
		t.Fatal(wordLines(g), names(g, row), all, isEmpty)
	}
}

// First of a rule alone is what Look tells of it.
func TestFirstAndLook(t *testing.T) {
	m := newMaker(506)
	for range 500 {
		g := m.plain(6, 2, 4)
		r, _ := gram.Look(g)
		for rule := range g.Rules {
			l, isEmpty, e := gram.First(g, len(g.Kinds)+rule)
			if e != api.OK || !slices.Equal(l, r.First[rule]) || isEmpty != r.Nullable[rule] {
				t.Fatal(wordLines(g), rule, l, isEmpty, e)
			}
		}
	}
}
