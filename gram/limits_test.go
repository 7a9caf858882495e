package gram_test

import (
	"slices"
	"strconv"
	"testing"

	"quoin/api"
	"quoin/gram"
)

// Grammars as large as any may be: all calls end, and soon.

// largest is a grammar of 2048 rules and 4096 productions of at most 64 symbols; the symbols are told for each production.
func largest(right func(prod int) []int) api.Plain {
	g := api.Plain{Kinds: append([]string{"end", "error"}, manyWords(1022)...), Precs: make([]api.Prec, 1024)}
	for i := range api.MaxRules {
		g.Rules = append(g.Rules, "R"+strconv.Itoa(i))
	}
	for i := range api.MaxProds {
		g.Prods = append(g.Prods, api.Prod{Left: i / 2, Right: right(i)})
	}
	return g
}

// asked is a largest grammar of which all is asked at its first rule, and its First.
func asked(t *testing.T, g api.Plain) (api.Report, int, api.Plain) {
	t.Helper()
	r, e := gram.Look(g)
	n, _, eLeast := gram.Least(g, 0)
	_, eRow := gram.Row(g, 0)
	trimmed, eTrim := gram.Trim(g)
	_, _, eFirst := gram.First(g, slices.Repeat([]int{1024, 1025}, 500)...)
	l, eLines := gram.Lines(g)
	if e != api.OK || eLeast != api.OK || eRow != api.OK && eRow != api.ErrNone && eRow != api.ErrLong || eTrim != api.OK && eTrim != api.ErrNone || eFirst != api.OK || eLines != api.OK || len(l) != len(g.Prods) {
		t.Error(e, eLeast, eRow, eTrim, eFirst, eLines)
	}
	return r, n, trimmed
}

// Rules that stand 64 times in the rule ahead and make the empty row, with a kind of its own each.
func TestLargeNullable(t *testing.T) {
	g := largest(func(i int) []int {
		if i%2 == 1 {
			return []int{2 + i/2%1022}
		}
		if i/2 == api.MaxRules-1 {
			return nil
		}
		return slices.Repeat([]int{1024 + i/2 + 1}, 64)
	})
	r, n, trimmed := asked(t, g)
	if slices.Contains(r.Nullable, false) || len(r.First[0]) != 1022 || len(r.Follow[api.MaxRules-1]) != 1023 || slices.Contains(r.Cyclic, true) || n != 0 || len(trimmed.Prods) != 4096 {
		t.Error(len(r.First[0]), len(r.Follow[api.MaxRules-1]), n, len(trimmed.Prods))
	}
}

// All rules in one ring, each with 64 that lead on.
func TestLargeRing(t *testing.T) {
	g := largest(func(i int) []int {
		if i%2 == 1 {
			return []int{2 + i/2%1022}
		}
		var l []int
		for k := range 64 {
			l = append(l, 1024+(i/2+api.MaxRules-1-k*31)%api.MaxRules)
		}
		return l
	})
	g.Prods[5].Right = nil
	r, n, trimmed := asked(t, g)
	if ruleNames(g, r.Nullable) != "R2" || slices.Contains(r.Productive, false) || n != 1 || len(trimmed.Rules) != 2048 {
		t.Error(ruleNames(g, r.Nullable), n, len(trimmed.Rules))
	}
	for i := range g.Prods {
		if i%2 == 1 {
			g.Prods[i].Right = nil
		}
	}
	r, n, _ = asked(t, g)
	if slices.Contains(r.Nullable, false) || slices.Contains(r.Cyclic, false) || n != 0 {
		t.Error(n)
	}
}

// A shortest row of 2048 rounds.
func TestLargeHeights(t *testing.T) {
	g := largest(func(i int) []int {
		switch {
		case i/2 == api.MaxRules-1:
			return []int{2 + i%2}
		case i%2 == 0:
			return []int{1024 + i/2 + 1}
		}
		return []int{1024 + i/2 + 1, 1024}
	})
	r, n, trimmed := asked(t, g)
	if n != 1 || len(trimmed.Prods) != 4096 || !slices.Equal(r.First[0], []int{2, 3}) {
		t.Error(n, len(trimmed.Prods))
	}
	if row, e := gram.Row(g, 0); e != api.OK || !slices.Equal(row, []int{2}) {
		t.Error(row, e)
	}
}

// One kind, through as many rules as there are, 64 times 64 times 16 times.
func TestLargeRow(t *testing.T) {
	g := largest(func(i int) []int {
		times := 1
		switch i / 2 {
		case 0, 1:
			times = 64
		case 2:
			times = 16
		case api.MaxRules - 1:
			return []int{7}
		}
		return slices.Repeat([]int{1024 + i/2 + 1}, times)
	})
	if _, n, _ := asked(t, g); n != 65536 {
		t.Error(n)
	}
	if row, e := gram.Row(g, 0); e != api.OK || !slices.Equal(row, slices.Repeat([]int{7}, 65536)) {
		t.Error(len(row), e)
	}
	g.Prods[4].Right, g.Prods[5].Right = append(g.Prods[4].Right, 8), append(g.Prods[5].Right, 8)
	if _, n, _ := asked(t, g); n != 65537 {
		t.Error(n)
	}
}
