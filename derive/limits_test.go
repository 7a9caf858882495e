package derive_test

import (
	"slices"
	"strconv"
	"testing"

	"quoin/api"
	"quoin/derive"
)

// Charts of just MaxChart parts and of one more, trees likewise, and grammars and rows as large as any may be: all calls end, and soon.

// plain is a grammar of the kinds a, b, c (2 to 4) and of so many rules (5 ..).
func plain(rules int, prods ...api.Prod) api.Plain {
	g := api.Plain{Kinds: []string{"end", "error", "a", "b", "c"}, Precs: make([]api.Prec, 5), Prods: prods}
	for i := range rules {
		g.Rules = append(g.Rules, "R"+strconv.Itoa(i))
	}
	return g
}

// rowOf is so many a, with other kinds behind them.
func rowOf(n int, behind ...int) []int { return append(slices.Repeat([]int{2}, n), behind...) }

// answersOf holds Count, Tree's error and Viable of a row whose chart has so many parts.
func answersOf(t *testing.T, what string, g api.Plain, row []int, parts, count, viable int) {
	t.Helper()
	if n, e := derive.Parts(g, row...); n != parts || e != api.OK {
		t.Error(what, "Parts:", n, e)
	}
	if n, e := derive.Count(g, row...); n != count || e != api.OK {
		t.Error(what, "Count:", n, e)
	}
	if n, e := derive.Viable(g, row...); n != viable || e != api.OK {
		t.Error(what, "Viable:", n, e)
	}
	d, e := derive.Tree(g, row...)
	if count == 0 && (e != api.ErrNone || told(d) != told(api.Deriv{})) {
		t.Error(what, "Tree:", e)
	}
	if count > 0 && (e != api.OK || !derive.Check(g, d, row...) || !slices.Equal(derive.Yield(g, d), row)) {
		t.Error(what, "Tree:", e)
	}
}

// Sixteen rules that make nothing, at 2^16 places.
func TestMaxChartOfRules(t *testing.T) {
	var prods []api.Prod
	for rule := range 16 {
		prods = append(prods, api.Prod{Left: rule})
	}
	row := rowOf(1<<16-2, 3)
	answersOf(t, "MaxChart", plain(16, prods...), row, api.MaxChart, 0, 0)
	one := plain(17, append(prods, api.Prod{Left: 16, Right: []int{3}})...) // it takes the only b
	refusedRow(t, "one more", api.ErrChart, one, row...)
	if n, e := derive.Parts(one, row[1:]...); n != api.MaxChart-15 || e != api.OK {
		t.Error(n, e)
	}
}

// Sixteen productions with a dot behind each a, and one rule behind the last.
func TestMaxChartOfDots(t *testing.T) {
	var prods []api.Prod
	for rule := range 16 {
		prods = append(prods, api.Prod{Left: rule, Right: []int{2, 3}})
	}
	row := rowOf(1 << 16)
	answersOf(t, "MaxChart", plain(16, prods...), row, api.MaxChart, 0, 1)
	refusedRow(t, "one more", api.ErrChart, plain(17, append(prods, api.Prod{Left: 16, Right: slices.Repeat([]int{2}, 64)})...), row...)
	row[1<<16-1] = 3 // one dot less, and one rule more, of each
	if n, e := derive.Parts(plain(16, prods...), row...); n != api.MaxChart || e != api.OK {
		t.Error(n, e)
	}
	if n, e := derive.Parts(plain(17, append(prods, api.Prod{Left: 16, Right: []int{3}})...), row...); n != 0 || e != api.ErrChart {
		t.Error(n, e)
	}
}

// All pieces of a row of 1023 tokens, with a rule and a dot each, and 1024 empty ones: n (n + 1) + n + 1.
func TestMaxChartOfPieces(t *testing.T) {
	prods := []api.Prod{{Right: []int{5, 5}}, {Right: []int{2}}, {Right: []int{4}}, {Left: 1}}
	row := rowOf(1022, 4)
	answersOf(t, "MaxChart", plain(2, prods...), row, api.MaxChart, 2, 1023)
	refusedRow(t, "one more", api.ErrChart, plain(3, append(prods, api.Prod{Left: 2, Right: []int{4}})...), row...)
	refusedRow(t, "one token more", api.ErrChart, plain(2, prods...), rowOf(1024)...)
	refusedRow(t, "as many as can be", api.ErrChart, plain(2, prods...), rowOf(api.MaxToks)...)
}

// Trees of just MaxChart nodes and leaves, and of one more, over charts of a few parts.
func TestMaxChartOfTrees(t *testing.T) {
	g := doubling(19, nil) // 2^20 - 1 nodes
	for _, x := range []struct {
		what string
		g    api.Plain
		row  []int
		is   bool
	}{
		{"one less", g, nil, true},
		{"MaxChart", withStart(g, 3), nil, true},
		{"one more", withStart(g, 3+19, 3), nil, false},
		{"one more behind", withStart(g, 3, 3+19), nil, false},
		{"a leaf more", withStart(g, 3, 2), []int{2}, false},
		{"a leaf more ahead", withStart(g, 2, 3), []int{2}, false},
		{"more than could be made", doubling(1000, nil), nil, false},
		{"more, of leaves", doubling(1000, []int{2}, nil), []int{2}, false},
	} {
		d, e := derive.Tree(x.g, x.row...)
		if x.is && (e != api.OK || !derive.Check(x.g, d, x.row...) || !slices.Equal(derive.Yield(x.g, d), x.row)) {
			t.Error(x.what, e)
		}
		if !x.is && (e != api.ErrChart || told(d) != told(api.Deriv{})) {
			t.Error(x.what, e)
		}
		want := 1
		if x.what == "more, of leaves" {
			want = 2
		}
		if n, e := derive.Count(x.g, x.row...); n != want || e != api.OK {
			t.Error(x.what, n, e)
		}
		if n, e := derive.Viable(x.g, x.row...); n != len(x.row) || e != api.OK {
			t.Error(x.what, n, e)
		}
	}
}

// As many tokens as can be, in trees that are as deep as the row is long: to the left, to the right, and on both sides.
func TestLongRows(t *testing.T) {
	const n = api.MaxToks
	head, tail := append([]int{3}, rowOf(n-1)...), rowOf(n-1, 3)
	left := plain(2, api.Prod{Right: []int{3}}, api.Prod{Right: []int{5, 6}}, api.Prod{Left: 1, Right: []int{2}})
	answersOf(t, "to the left", left, head, 3*n-1, 1, n)
	right := plain(2, api.Prod{Right: []int{3}}, api.Prod{Right: []int{6, 5}}, api.Prod{Left: 1, Right: []int{2}})
	answersOf(t, "to the right", right, tail, 3*n-2, 1, n)
	inner := plain(1, api.Prod{Right: []int{2, 5, 4}}, api.Prod{Right: []int{3}})
	row := slices.Concat(rowOf(n/2-1, 3), slices.Repeat([]int{4}, n/2-1))
	answersOf(t, "on both sides", inner, row, 3*(n/2-1)+1, 1, n-1)
	answersOf(t, "to the left, wrong at the end", left, append(head[:n-1], 4), 3*n-4, 0, n-1)
	answersOf(t, "to the right, wrong at the end", right, append(tail[:n-1], 4), 2*(n-1), 0, n-1)
}

// Eight rules above one another at each token.
func TestDeepTrees(t *testing.T) {
	const n = api.MaxToks
	var prods []api.Prod
	for rule := range 7 {
		prods = append(prods, api.Prod{Left: rule, Right: []int{5 + rule + 1}})
	}
	g := plain(8, append(prods, api.Prod{Left: 7, Right: []int{2, 5}}, api.Prod{Left: 7, Right: []int{3}})...)
	answersOf(t, "deep", g, rowOf(n-1, 3), 8*n+n-1, 1, n)
}

// Short productions that are alike, as many as there may be, over as many tokens.
func TestManyLikeProductions(t *testing.T) {
	prods := []api.Prod{{Right: []int{3}}, {Right: []int{5, 6}}}
	for range 1364 {
		prods = append(prods, api.Prod{Left: 2, Right: []int{2}}, api.Prod{Left: 1, Right: []int{7}}, api.Prod{Left: 3})
	}
	g := plain(4, prods...)
	row := append([]int{3}, rowOf(api.MaxToks-1)...)
	answersOf(t, "alike", g, row, 5*len(row)-1, 2, len(row))
	if d, e := derive.Tree(g, row[:3]...); e != api.OK || treeText(g, d) != "R01(R01(R00(0) R13(R22(1))) R13(R22(2)))" {
		t.Error(treeText(g, d), e)
	}
}

// A rule of 2000 others, of which one takes what is there.
func TestManyRules(t *testing.T) {
	prods := []api.Prod{{Right: []int{3}}, {Right: []int{5, 6}}}
	for i := range 2000 {
		prods = append(prods, api.Prod{Left: 1, Right: []int{7 + i}}, api.Prod{Left: 2 + i, Right: []int{4}})
	}
	prods[2+2*1234+1].Right = []int{2}
	row := append([]int{3}, rowOf(20000)...)
	answersOf(t, "many rules", plain(2002, prods...), row, 4*20000+2, 1, len(row))
}

// As many rules and productions as there may be, each of 64 rules that lead on.
func TestLargestGrammar(t *testing.T) {
	var prods []api.Prod
	for rule := range api.MaxRules {
		var right []int
		for k := range 64 {
			right = append(right, 5+(rule+1+31*k)%api.MaxRules)
		}
		prods = append(prods, api.Prod{Left: rule, Right: right}, api.Prod{Left: rule, Right: []int{2, 5 + (rule+1)%api.MaxRules}})
	}
	g := plain(api.MaxRules, prods...)
	answersOf(t, "nothing is derived", g, rowOf(100), 100*api.MaxRules, 0, -1)
	g.Prods[2*api.MaxRules-1].Right = []int{3}
	answersOf(t, "all is needed", g, rowOf(20), 20*(api.MaxRules-1), 0, 20)
	g.Prods[2*api.MaxRules-2].Right = nil
	if n, e := derive.Parts(g); n != 2 || e != api.OK { // the last rule, and behind it in the one ahead
		t.Error(n, e)
	}
}
