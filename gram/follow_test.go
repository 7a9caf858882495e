package gram_test

import (
	"slices"
	"testing"

	"quoin/api"
	"quoin/gram"
)

// What follows, C5 to C7. (C8 stands with First.)

func TestLeastAndLook(t *testing.T) {
	m := newMaker(507)
	for range 1500 {
		g := m.plain(8, 2, 4)
		r, e := gram.Look(g)
		if e != api.OK {
			t.Fatal(e)
		}
		for rule := range g.Rules {
			n, is, e := gram.Least(g, rule)
			if e != api.OK || r.Productive[rule] != is || r.Nullable[rule] != (is && n == 0) {
				t.Fatal(wordLines(g), rule, n, is, e)
			}
			row, e := gram.Row(g, rule)
			if is != (e == api.OK) || len(row) != n {
				t.Fatal(wordLines(g), rule, row, e)
			}
			if len(row) > 0 && !slices.Contains(r.First[rule], row[0]) {
				t.Fatal(wordLines(g), rule, row, r.First[rule])
			}
		}
	}
}

func TestTrimOfTrim(t *testing.T) {
	m := newMaker(508)
	trimmed := 0
	for range 3000 {
		g := m.plain(8, 2, 3)
		made, e := gram.Trim(g)
		if e == api.ErrNone {
			continue
		}
		again, eAgain := gram.Trim(made)
		if e != api.OK || eAgain != api.OK || told(again) != told(made) {
			t.Fatal(wordLines(g), e, eAgain, again)
		}
		r, e := gram.Look(made)
		if e != api.OK || slices.Contains(r.Productive, false) || slices.Contains(r.Reached, false) {
			t.Fatal(wordLines(g), r, e)
		}
		if len(made.Rules) < len(g.Rules) {
			trimmed++
		}
	}
	if trimmed < 500 {
		t.Error("too few:", trimmed)
	}
}

// kindRows are the rows of kinds that Start makes, up to a length.
func kindRows(g api.Plain, most int) []string {
	var l []string
	for row := range made(g, most, len(g.Kinds)+g.Start) {
		if isKinds(g, rowOf(row)) {
			l = append(l, row)
		}
	}
	slices.Sort(l)
	return l
}

func TestTrimKeepsRows(t *testing.T) {
	m := newMaker(509)
	for range 1500 {
		g := m.plain(4, 2, 2)
		trimmed, e := gram.Trim(g)
		if e == api.ErrNone {
			if l := kindRows(g, 5); len(l) > 0 {
				t.Fatal(wordLines(g), l)
			}
			continue
		}
		if a, b := kindRows(g, 5), kindRows(trimmed, 5); !slices.Equal(a, b) {
			t.Fatal(wordLines(g), wordLines(trimmed), a, b)
		}
	}
}
