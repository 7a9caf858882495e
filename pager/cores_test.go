package pager_test

import (
	"slices"
	"testing"

	"quoin/api"
	"quoin/items"
	"quoin/pager"
)

// P15.3: Cores.

func TestCoresOfStates(t *testing.T) {
	g := read("S = a A b; S = a B; A = a; B = a A")
	one, other := kernel([]int{0, 1, 0}), kernel([]int{0, 1, 3, 2}, []int{1, 1, 0})
	for what, c := range map[string]struct {
		states [][]api.Item
		want   int
	}{
		"no states":                    {nil, 0},
		"an empty state":               {[][]api.Item{nil}, 1},
		"empty states":                 {[][]api.Item{nil, {}, nil}, 1},
		"no kernel":                    {[][]api.Item{kernel([]int{0, 0, 0}), kernel([]int{2, 0, 0})}, 1},
		"no kernel, and an empty one":  {[][]api.Item{kernel([]int{0, 0, 0}), nil}, 1},
		"one, and an empty one":        {[][]api.Item{one, nil}, 2},
		"one twice":                    {[][]api.Item{one, one}, 1},
		"one, with other Looks":        {[][]api.Item{one, kernel([]int{0, 1, 1, 2, 3})}, 1},
		"one, with others beside":      {[][]api.Item{one, kernel([]int{0, 1, 1}, []int{2, 0, 0})}, 1},
		"two":                          {[][]api.Item{one, other}, 2},
		"two, and again":               {[][]api.Item{one, other, one, other, other}, 2},
		"a core that is part of one":   {[][]api.Item{other, one, other[2:]}, 3},
		"another Dot":                  {[][]api.Item{one, kernel([]int{0, 2, 0}), kernel([]int{0, 3, 0})}, 3},
		"another Prod":                 {[][]api.Item{one, kernel([]int{1, 1, 0}), kernel([]int{3, 1, 0})}, 3},
		"in any order, and twice":      {[][]api.Item{other, {other[2], other[0], other[2], other[1], other[0]}}, 1},
		"the start's":                  {[][]api.Item{kernel([]int{4, 0, 0}), kernel([]int{4, 1, 0}), kernel([]int{4, 0, 1})}, 2},
		"the start's beside another":   {[][]api.Item{kernel([]int{4, 0, 0}), kernel([]int{3, 1, 0}, []int{4, 0, 0}), kernel([]int{3, 1, 0})}, 3},
		"many, all of one core at end": {[][]api.Item{nil, one, other, kernel([]int{4, 1, 0}), kernel([]int{4, 1, 2})}, 4},
	} {
		for _, next := range [][][]int{nil, {{1, 2}, {-7}}, make([][]int, 9)} { // Next means nothing
			a := api.Auto{States: c.states, Next: next}
			if n := likeCores(t, g, a); n != c.want {
				t.Error(what, n)
			}
		}
	}
}

func TestCoresOfAutomata(t *testing.T) {
	m := newMaker(805)
	often := 0
	for n := range 3000 {
		g := m.contexts()
		if n%2 == 0 {
			g = m.plain(1+m.Intn(6), 1+m.Intn(3), 1+m.Intn(4))
		}
		one, eOne := items.Build(g)
		merged, eMerged := pager.Build(g)
		united, eUnited := pager.Lalr(g)
		if eOne != api.OK || eMerged != api.OK || eUnited != api.OK {
			t.Fatal(text(g), eOne, eMerged, eUnited)
		}
		want := len(united.States)
		for _, a := range []api.Auto{one, merged, united} {
			if n, e := pager.Cores(g, a); n != want || e != api.OK {
				t.Fatal(text(g), n, e)
			}
			twice := api.Auto{States: slices.Concat(a.States, a.States, [][]api.Item{nil})}
			for s := range twice.States {
				twice.States[s] = m.shuffled(twice.States[s])
			}
			if n, e := pager.Cores(g, twice); n != want+1 || e != api.OK {
				t.Fatal(text(g), n, e)
			}
		}
		count(&often, len(one.States) > want)
	}
	if often < 500 {
		t.Error(often)
	}
}

func TestCoresByChance(t *testing.T) {
	m := newMaker(806)
	for range 3000 {
		g := m.plain(1+m.Intn(3), 1+m.Intn(2), 1+m.Intn(3))
		var a api.Auto
		for range m.Intn(12) {
			a.States = append(a.States, m.items(g, 3))
		}
		likeCores(t, g, a)
	}
}
