package derive_test

import (
	"math"
	"reflect"
	"slices"
	"testing"

	"quoin/api"
	"quoin/derive"
)

// P13.3: Check and Yield.

// leaf and node are trees.
func leaf(tok int) api.Deriv { return api.Deriv{Prod: -1, Tok: tok} }

func node(prod int, kids ...api.Deriv) api.Deriv { return api.Deriv{Prod: prod, Kids: kids} }

// treesGrammar is the one of which the trees here are, or are not: its kinds a and b are 2 and 3.
func treesGrammar() api.Plain { return read("S = A b A; A = a; A =; A = S; B = a") }

type treeCase struct {
	what  string
	d     api.Deriv
	row   []int
	is    bool  // Check's answer
	yield []int // Yield's
}

func holdTrees(t *testing.T, g api.Plain, l []treeCase) {
	t.Helper()
	for _, x := range l {
		if wordIsDerivation(g, x.d, x.row) != x.is {
			t.Error("the test is wrong:", x.what)
		}
		if is := derive.Check(g, x.d, x.row...); is != x.is {
			t.Error(x.what, "Check:", is)
		}
		if l := derive.Yield(g, x.d); !slices.Equal(l, x.yield) {
			t.Error(x.what, "Yield:", l, "not", x.yield)
		}
	}
}

func TestRightTrees(t *testing.T) {
	inner := node(3, node(0, node(2), leaf(1), node(2)))
	holdTrees(t, treesGrammar(), []treeCase{
		{"a b", node(0, node(1, leaf(0)), leaf(1), node(2)), []int{2, 3}, true, []int{2, 3}},
		{"b", node(0, node(2), leaf(0), node(2)), []int{3}, true, []int{3}},
		{"a b a", node(0, node(1, leaf(0)), leaf(1), node(1, leaf(2))), []int{2, 3, 2}, true, []int{2, 3, 2}},
		{"b b", node(0, node(2), leaf(0), inner), []int{3, 3}, true, []int{3, 3}},
	})
	holdTrees(t, read("S =; S = S S; a"), []treeCase{
		{"nothing", node(0), nil, true, nil},
		{"the zero tree", api.Deriv{}, []int{}, true, nil},
		{"an empty list of kids", api.Deriv{Kids: []api.Deriv{}}, nil, true, nil},
		{"nothing, otherwise", node(1, node(0), node(1, node(0), node(0))), nil, true, nil},
		{"nothing, over a row", node(0), []int{2}, false, nil},
	})
	holdTrees(t, read("S = error"), []treeCase{
		{"error", node(0, leaf(0)), []int{1}, true, []int{1}},
		{"a leaf without kids", node(0, api.Deriv{Prod: -1, Kids: []api.Deriv{}}), []int{1}, true, []int{1}},
	})
}

func TestWrongRoots(t *testing.T) {
	holdTrees(t, treesGrammar(), []treeCase{
		{"another rule's", node(1, leaf(0)), []int{2}, false, []int{2}},
		{"another rule's, of the start", node(3, node(0, node(2), leaf(0), node(2))), []int{3}, false, []int{3}},
		{"a rule's that is not reached", node(4, leaf(0)), []int{2}, false, []int{2}},
		{"a leaf", leaf(0), []int{2}, false, nil},
		{"a leaf, over nothing", leaf(0), nil, false, nil},
		{"the zero tree", api.Deriv{}, nil, false, nil},
	})
	g := treesGrammar()
	g.Start = 1
	holdTrees(t, g, []treeCase{
		{"this start's", node(1, leaf(0)), []int{2}, true, []int{2}},
		{"this start's by a rule", node(3, node(0, node(2), leaf(0), node(2))), []int{3}, true, []int{3}},
		{"the other rule's", node(0, node(2), leaf(0), node(2)), []int{3}, false, []int{3}},
	})
}

func TestWrongProductions(t *testing.T) {
	g := treesGrammar()
	for _, prod := range []int{math.MinInt, -2, -1, 4, 5, 6, 100, math.MaxInt} {
		holdTrees(t, g, []treeCase{
			{"inside", node(0, node(prod, leaf(0)), leaf(1), node(2)), []int{2, 3}, false, nil},
			{"inside, without kids", node(0, node(1, leaf(0)), leaf(1), node(prod)), []int{2, 3}, false, nil},
			{"within a leaf's place", node(0, node(1, node(prod, leaf(0))), leaf(1), node(2)), []int{2, 3}, false, nil},
		})
	}
	for _, prod := range []int{math.MinInt, -2, -1, 5, 6, 100, math.MaxInt} {
		holdTrees(t, g, []treeCase{{"at the root", node(prod, node(1, leaf(0)), leaf(1), node(2)), []int{2, 3}, false, nil}})
	}
}

func TestWrongKids(t *testing.T) {
	a, b, none := node(1, leaf(0)), leaf(1), node(2)
	holdTrees(t, treesGrammar(), []treeCase{
		{"none", node(0), []int{2, 3}, false, nil},
		{"too few", node(0, a, b), []int{2, 3}, false, nil},
		{"too many", node(0, a, b, none, none), []int{2, 3}, false, nil},
		{"too many, a leaf", node(0, a, b, none, leaf(2)), []int{2, 3, 2}, false, nil},
		{"too few inside", node(0, node(1), b, none), []int{2, 3}, false, nil},
		{"too many inside", node(0, a, b, node(2, leaf(2))), []int{2, 3, 2}, false, nil},
		{"too many inside, nodes", node(0, a, b, node(2, none)), []int{2, 3}, false, nil},
		{"a leaf for a rule", node(0, leaf(0), b, none), []int{2, 3}, false, nil},
		{"a leaf for a rule at the end", node(0, a, b, leaf(2)), []int{2, 3, 2}, false, nil},
		{"a node for a kind", node(0, a, none, none), []int{2}, false, nil},
		{"a node of another rule for a kind", node(0, a, node(4, leaf(1)), none), []int{2, 2}, false, nil},
		{"a node of another rule", node(0, node(4, leaf(0)), b, none), []int{2, 3}, false, nil},
		{"a node of the start", node(0, node(0, none, leaf(0), none), b, none), []int{3, 3}, false, nil},
		{"in another order", node(0, b, a, none), []int{2, 3}, false, nil},
	})
}

func TestWrongPlaces(t *testing.T) {
	over := func(first, second, third int) api.Deriv {
		return node(0, node(1, leaf(first)), leaf(second), node(1, leaf(third)))
	}
	row := []int{2, 3, 2}
	l := []treeCase{{"right", over(0, 1, 2), row, true, row}}
	for _, tok := range [][3]int{{0, 1, 1}, {0, 0, 2}, {0, 1, 0}, {1, 2, 3}, {0, 2, 3}, {0, 1, 3}, {2, 1, 0}, {0, 2, 1}, {1, 0, 2}, {-1, 0, 1}, {0, 1, -1}, {0, 1, math.MaxInt}, {math.MinInt, 1, 2}} {
		l = append(l, treeCase{told(tok), over(tok[0], tok[1], tok[2]), row, false, row})
	}
	for _, other := range [][]int{{2, 3}, {2, 3, 2, 2}, {2}, nil, {2, 3, 2, 3, 2}, {3, 3, 2}, {2, 2, 2}, {2, 3, 3}, {2, 3, 1}, {0, 3, 2}, {2, 3, -1}, {2, 3, math.MaxInt}, {2, 3, 2, 0}, {2, 4, 2}} {
		l = append(l, treeCase{told(other), over(0, 1, 2), other, false, row})
	}
	// Whose places mean nothing at all.
	l = append(l, treeCase{"no places", over(-7, 100, -7), row, false, row})
	holdTrees(t, treesGrammar(), l)
}

// A node's Tok must be zero for Check; for Yield, which reads productions alone, it means nothing.
func TestUnusedFields(t *testing.T) {
	with := func(d api.Deriv, tok int) api.Deriv {
		d.Tok = tok
		return d
	}
	row := []int{2, 3}
	var l []treeCase
	for _, tok := range []int{1, -1, 2, math.MaxInt, math.MinInt} {
		l = append(l,
			treeCase{"at the root", with(node(0, node(1, leaf(0)), leaf(1), node(2)), tok), row, false, row},
			treeCase{"inside", node(0, with(node(1, leaf(0)), tok), leaf(1), node(2)), row, false, row},
			treeCase{"without kids", node(0, node(1, leaf(0)), leaf(1), with(node(2), tok)), row, false, row})
	}
	holdTrees(t, treesGrammar(), l)
}

// full is a leaf but for its kids: what has some is none.
func full(tok int, kids ...api.Deriv) api.Deriv { return api.Deriv{Prod: -1, Tok: tok, Kids: kids} }

func TestLeafWithKids(t *testing.T) {
	row := []int{2, 3}
	a, b, none := node(1, leaf(0)), leaf(1), node(2)
	holdTrees(t, treesGrammar(), []treeCase{
		{"a leaf with a leaf", node(0, node(1, full(0, leaf(0))), b, none), row, false, nil},
		{"a leaf with a node", node(0, a, full(1, none), none), row, false, nil},
		{"a leaf with the zero tree", node(0, a, full(1, api.Deriv{}), none), row, false, nil},
		{"a leaf with what is none", node(0, a, full(1, node(100)), none), row, false, nil},
		{"a leaf with many", node(0, a, full(1, leaf(1), none, leaf(1)), none), row, false, nil},
		{"a leaf with a leaf that has one", node(0, a, full(1, full(1, leaf(1))), none), row, false, nil},
		{"no leaf but kids at the root", full(0, a, b, none), row, false, nil},
		{"a leaf with kids for a rule", node(0, full(0, leaf(0)), b, none), row, false, nil},
		{"a leaf with no kids", node(0, node(1, full(0)), full(1), none), row, true, row},
		{"a leaf with an empty list of kids", node(0, node(1, full(0, []api.Deriv{}...)), full(1, []api.Deriv{}...), none), row, true, row},
		{"leaves with room for kids", node(0, a, full(1, make([]api.Deriv, 0, 3)...), none), row, true, row},
	})
	holdTrees(t, read("B =; B = error; a; b; c; d"), []treeCase{
		{"the one leaf, with the zero tree", node(1, full(0, api.Deriv{})), []int{1}, false, nil},
		{"the one leaf, with itself", node(1, full(0, leaf(0))), []int{1}, false, nil},
		{"the one leaf", node(1, leaf(0)), []int{1}, true, []int{1}},
	})
}

// Each leaf of a tree, one after the other, with kids of all sorts.
func TestEachLeafWithKids(t *testing.T) {
	m := newMaker(608)
	often := 0
	for range 3000 {
		g := m.plain(1+m.Intn(4), 1+m.Intn(4), 1+m.Intn(4))
		row, d, e := derive.Sentence(g, m.choices(6), 5)
		if e != api.OK || len(row) > 20 {
			continue
		}
		for _, one := range spots(&d) {
			if one.Prod != -1 {
				continue
			}
			for _, kids := range [][]api.Deriv{{{}}, {leaf(one.Tok)}, {node(len(g.Prods))}, {{}, leaf(0)}, {clone(d)}, {full(0, api.Deriv{})}} {
				one.Kids = kids
				if l := derive.Yield(g, d); len(l) > 0 || derive.Check(g, d, row...) {
					t.Fatal(lines(g), row, told(d), l)
				}
				often++
			}
			one.Kids = []api.Deriv{}
			if l := derive.Yield(g, d); !slices.Equal(l, row) || !derive.Check(g, d, row...) {
				t.Fatal(lines(g), row, told(d), l)
			}
		}
	}
	if often < 5000 {
		t.Error(often)
	}
}

// Check has no limit of its own: a row that is too long for the others may be derived.
func TestCheckOfLongRows(t *testing.T) {
	g := read("S = a; S = T T; T = a T; T = a")
	half := api.MaxToks/2 + 1
	var row []int
	first, second := node(3, leaf(half-1)), node(3, leaf(2*half-1))
	for i := half - 2; i >= 0; i-- {
		first, second = node(2, leaf(i), first), node(2, leaf(half+i), second)
	}
	for range 2 * half {
		row = append(row, 2)
	}
	d := node(1, first, second)
	if !derive.Check(g, d, row...) || derive.Check(g, d, row[1:]...) || !slices.Equal(derive.Yield(g, d), row) {
		t.Error("a long row")
	}
	refusedRow(t, "a long row", api.ErrChart, g, row...)
}

// spots are all trees within a tree.
func spots(d *api.Deriv) []*api.Deriv {
	l := []*api.Deriv{d}
	for i := range d.Kids {
		l = append(l, spots(&d.Kids[i])...)
	}
	return l
}

// turn changes something in a tree.
func (m *maker) turn(d *api.Deriv, prods int) {
	l := spots(d)
	one := l[m.Intn(len(l))]
	switch m.Intn(7) {
	case 0:
		one.Prod = m.Intn(prods+2) - 2
	case 1:
		one.Tok = m.Intn(4) - 1
	case 2:
		one.Tok++
	case 3:
		one.Kids = one.Kids[:m.Intn(len(one.Kids)+1)]
	case 4:
		one.Kids = append(one.Kids, clone(*l[m.Intn(len(l))]))
	case 5:
		*one = clone(*l[m.Intn(len(l))])
	case 6:
		other := l[m.Intn(len(l))]
		one.Prod, other.Prod = other.Prod, one.Prod
	}
}

// Trees of sentences in which something, wherever, is another one; and rows that are others.
func TestCheckByChance(t *testing.T) {
	m := newMaker(605)
	var often [2]int
	for range 60000 {
		g := m.plain(1+m.Intn(4), 1+m.Intn(4), 1+m.Intn(4))
		row, d, e := derive.Sentence(g, m.choices(6), 5)
		if e != api.OK || len(row) > 20 {
			continue
		}
		if !derive.Check(g, d, row...) || !slices.Equal(derive.Yield(g, d), row) {
			t.Fatal(lines(g), row, treeText(g, d))
		}
		for range m.Intn(3) {
			m.turn(&d, len(g.Prods))
		}
		if m.Intn(4) == 0 {
			row = m.row(g, len(row)+1)
		}
		want := wordIsDerivation(g, d, row)
		if is := derive.Check(g, d, row...); is != want {
			t.Fatal(lines(g), row, told(d), is)
		}
		l, _ := wordYield(g, d)
		if got := derive.Yield(g, d); !slices.Equal(got, l) {
			t.Fatal(lines(g), told(d), got, "not", l)
		}
		if want {
			often[1]++
		} else {
			often[0]++
		}
	}
	if often[0] < 5000 || often[1] < 5000 {
		t.Error(often)
	}
}

// Trees that stand in themselves have no end: they are no derivations.
func TestEndlessTrees(t *testing.T) {
	g := read("S = S; S = S S; S =; S = A S; A =; a")
	ring := []api.Deriv{{Prod: 0}}
	ring[0].Kids = ring
	both := []api.Deriv{{Prod: 1}, {Prod: 1}}
	both[0].Kids, both[1].Kids = both, both
	behind := []api.Deriv{{Prod: 4}, {Prod: 3}}
	behind[1].Kids = behind
	for i, d := range []api.Deriv{ring[0], both[0], behind[1], node(0, ring[0]), node(1, node(2), behind[1])} {
		if derive.Check(g, d) || derive.Check(g, d, 2) || len(derive.Yield(g, d)) > 0 {
			t.Error(i)
		}
	}
}

// clone is a value in memory of its own.
func clone[T any](x T) T { return copied(reflect.ValueOf(x), false).Interface().(T) }
