package derive_test

import (
	"slices"
	"testing"

	"quoin/api"
	"quoin/derive"
)

// What follows: P13.5, P13.6, P13.7; on greater grammars and longer rows than the words could go through.

// follows holds what follows of a grammar and a row.
func follows(t *testing.T, g api.Plain, row []int) int {
	t.Helper()
	n, e := derive.Count(g, row...)
	d, eTree := derive.Tree(g, row...)
	v, eViable := derive.Viable(g, row...)
	if e != api.OK || eViable != api.OK || (n == 0) != (eTree != api.OK) || eTree != api.OK && eTree != api.ErrNone {
		t.Fatal(lines(g), row, e, eTree, eViable)
	}
	if n > 0 && (!derive.Check(g, d, row...) || !slices.Equal(derive.Yield(g, d), row)) {
		t.Fatal(lines(g), row, "the tree is none:", treeText(g, d))
	}
	if n > 0 && v != len(row) || v < -1 || v > len(row) {
		t.Fatal(lines(g), row, n, v)
	}
	for size := range len(row) {
		if less, e := derive.Viable(g, row[:size]...); less != min(v, size) || e != api.OK {
			t.Fatal(lines(g), row, v, "but of", size, less, e)
		}
	}
	return n
}

func TestWhatFollows(t *testing.T) {
	m := newMaker(607)
	var often [3]int
	for range 4000 {
		g := m.plain(1+m.Intn(8), 1+m.Intn(3), 1+m.Intn(6))
		often[follows(t, g, m.row(g, 6))]++
		row, d, e := derive.Sentence(g, m.choices(20), m.Intn(12))
		if e != api.OK || len(row) > 25 {
			continue
		}
		if n := follows(t, g, row); n == 0 || !derive.Check(g, d, row...) {
			t.Fatal(lines(g), row, n)
		} else {
			often[n]++
		}
		if len(row) > 0 {
			row[m.Intn(len(row))] = m.kind(g)
			follows(t, g, row)
		}
	}
	if slices.Min(often[:]) < 400 {
		t.Error(often)
	}
}

// A row has two derivations, where the tree of a sentence and the one by heights are not the same.
func TestTwoTrees(t *testing.T) {
	m := newMaker(608)
	others := 0
	for range 10000 {
		g := m.plain(1+m.Intn(5), 1+m.Intn(4), 1+m.Intn(4))
		row, d, e := derive.Sentence(g, m.choices(12), m.Intn(8))
		if e != api.OK || len(row) > 25 {
			continue
		}
		tree, e := derive.Tree(g, row...)
		n, _ := derive.Count(g, row...)
		isOther := told(tree) != told(d)
		if e != api.OK || n == 0 || isOther && n != 2 {
			t.Fatal(lines(g), row, n, e, treeText(g, tree), treeText(g, d))
		}
		if isOther {
			others++
		}
	}
	if others < 500 {
		t.Error(others)
	}
}

// rowsOf are the rows of at most so many kinds that come of the start by replacing rules in rows of at most so many symbols.
func rowsOf(g api.Plain, kinds, symbols int) map[string]bool {
	first := string([]byte{byte(len(g.Kinds) + g.Start)})
	found, rows := map[string]bool{first: true}, map[string]bool{}
	todo := []string{first}
	for len(todo) > 0 {
		row := todo[0]
		todo = todo[1:]
		at := slices.IndexFunc([]byte(row), func(b byte) bool { return int(b) >= len(g.Kinds) })
		if at < 0 {
			if len(row) <= kinds {
				rows[row] = true
			}
			continue
		}
		for _, p := range g.Prods {
			if p.Left != int(row[at])-len(g.Kinds) {
				continue
			}
			next := row[:at] + text(p.Right) + row[at+1:]
			if len(next) <= symbols && !found[next] {
				found[next] = true
				todo = append(todo, next)
			}
		}
	}
	return rows
}

func text(row []int) string {
	var l []byte
	for _, x := range row {
		l = append(l, byte(x))
	}
	return string(l)
}

// The words themselves, and the calls: rows that are derived are those that come by replacing rules, and their beginnings can be gone on with.
func TestWordsByRows(t *testing.T) {
	m := newMaker(609)
	for range 400 {
		g := m.plain(3, 2, 2)
		rows := rowsOf(g, 3, 8)
		for _, row := range allRows(g, 3) {
			n, e := derive.Count(g, row...)
			if e != api.OK || (n > 0) != rows[text(row)] {
				t.Fatal(lines(g), row, n, e)
			}
		}
		for row := range rows {
			for size := range len(row) + 1 {
				var l []int
				for _, b := range []byte(row[:size]) {
					l = append(l, int(b))
				}
				if v, e := derive.Viable(g, l...); v != size || e != api.OK || !wordViable(g, l) {
					t.Fatal(lines(g), l, v, e)
				}
			}
		}
	}
}
