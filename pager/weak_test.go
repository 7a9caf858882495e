package pager_test

import (
	"slices"
	"testing"

	"quoin/api"
	"quoin/pager"
)

// P15.1: Weak and Unite.

// kernel are items, of each spot by its Prod, its Dot and its Looks.
func kernel(l ...[]int) []api.Item {
	var made []api.Item
	for _, spot := range l {
		for _, look := range spot[2:] {
			made = append(made, api.Item{Prod: spot[0], Dot: spot[1], Look: look})
		}
	}
	return made
}

// three is a grammar of three productions of the start; its kinds a to e are 2 to 6.
func three() api.Plain { return read("S = a A b; S = a B; S = a a S; A = a; B = c A; d e") }

// isWeak holds Weak of two kernels of three at what is told, either way round; with items that mean nothing beside them, too.
func isWeak(t *testing.T, what string, want bool, a, b []api.Item) {
	t.Helper()
	g := three()
	rest := state([3]int{0, 0, 2}, [3]int{3, 0, 3}, [3]int{4, 0, 0})
	for _, pair := range [][2][]api.Item{{a, b}, {b, a}, {append(rest, a...), b}, {b, append(slices.Clone(a), rest...)}, {append(a, a...), append(b, rest...)}} {
		if is, e := pager.Weak(g, pair[0], pair[1]); is != want || e != api.OK {
			t.Error(what, pair, is, e)
		}
		likePair(t, g, pair[0], pair[1])
	}
}

func TestWeakByEachWay(t *testing.T) {
	p, q := api.Item{Prod: 0, Dot: 1}, api.Item{Prod: 1, Dot: 1}
	of := func(looksOfP, looksOfQ []int) []api.Item {
		return kernel(append([]int{0, 1}, looksOfP...), append([]int{1, 1}, looksOfQ...))
	}
	for what, one := range map[string]struct {
		a, b []api.Item
		ways [3]bool
	}{
		"nothing in common":                      {of([]int{2}, []int{3}), of([]int{4}, []int{5}), [3]bool{true, false, false}},
		"of p and p, q and q alone":              {of([]int{2}, []int{3}), of([]int{2}, []int{3}), [3]bool{true, false, false}},
		"of p and p alone":                       {of([]int{2, 4}, []int{3}), of([]int{2, 5}, []int{6}), [3]bool{true, false, false}},
		"in the first":                           {of([]int{2, 3}, []int{3}), of([]int{4}, []int{2}), [3]bool{false, true, false}},
		"in the second":                          {of([]int{4}, []int{2}), of([]int{2, 3}, []int{3}), [3]bool{false, false, true}},
		"in both":                                {of([]int{2, 3}, []int{3}), of([]int{2}, []int{2}), [3]bool{false, true, true}},
		"in the first, and nothing across":       {of([]int{2}, []int{2}), of([]int{4}, []int{5}), [3]bool{true, true, false}},
		"in the second, and nothing across":      {of([]int{4}, []int{5}), of([]int{0}, []int{0}), [3]bool{true, false, true}},
		"across, both":                           {of([]int{2}, []int{3}), of([]int{3}, []int{2}), [3]bool{}},
		"across, p of the first":                 {of([]int{2}, []int{3}), of([]int{4}, []int{2}), [3]bool{}},
		"across, q of the first":                 {of([]int{2}, []int{3}), of([]int{3}, []int{4}), [3]bool{}},
		"across, among others":                   {of([]int{2, 0, 1}, []int{3, 5}), of([]int{2, 0, 1}, []int{3, 5, 1}), [3]bool{false, false, true}},
		"across, among others, and nothing else": {of([]int{2, 0, 1}, []int{3, 5}), of([]int{2, 0}, []int{3, 5, 1}), [3]bool{}},
		"the end and error":                      {of([]int{0}, []int{1}), of([]int{1}, []int{0}), [3]bool{}},
		"the end, in the second":                 {of([]int{0}, []int{1}), of([]int{0, 1}, []int{0}), [3]bool{false, false, true}},
	} {
		if ways(one.a, one.b, p, q) != one.ways {
			t.Error("the test is wrong:", what)
		}
		isWeak(t, what, one.ways != [3]bool{}, one.a, one.b)
	}
}

// Of one spot there is nothing to ask; of no items neither.
func TestWeakOfOneSpot(t *testing.T) {
	for look := range 7 {
		isWeak(t, "one spot", true, kernel([]int{2, 2, 3}), kernel([]int{2, 2, look}))
	}
	isWeak(t, "one spot, many Looks", true, kernel([]int{0, 1, 0, 1, 2}), kernel([]int{0, 1, 2, 5, 6}))
	isWeak(t, "the start's item", true, kernel([]int{5, 0, 0}), kernel([]int{5, 0, 0}))
	isWeak(t, "the start's item, other Looks", true, kernel([]int{5, 0, 3}), kernel([]int{5, 0, 0, 1}))
	isWeak(t, "no items", true, nil, nil)
	isWeak(t, "no items, and some with the point ahead", true, []api.Item{}, kernel([]int{0, 0, 3}, []int{3, 0, 2}))
}

// Each two spots are asked for: those of one production, too, and the start's.
func TestWeakOfManySpots(t *testing.T) {
	isWeak(t, "one production", false, kernel([]int{2, 1, 2}, []int{2, 2, 3}), kernel([]int{2, 1, 3}, []int{2, 2, 4}))
	isWeak(t, "the start's item", false, kernel([]int{2, 2, 2}, []int{5, 0, 0}), kernel([]int{2, 2, 0}, []int{5, 0, 1}))
	isWeak(t, "the start's two", false, kernel([]int{5, 0, 1}, []int{5, 1, 0}), kernel([]int{5, 0, 0}, []int{5, 1, 3}))
	core := [][]int{{0, 1}, {0, 2}, {1, 1}, {2, 1}, {5, 1}}
	var a []api.Item
	for n, spot := range core {
		a = append(a, kernel(append(slices.Clone(spot), n))...)
	}
	for n := range core {
		for r := range core {
			b := slices.Clone(a)
			b[n].Look, b[r].Look = b[r].Look, b[n].Look
			isWeak(t, "two are turned", n == r, a, b)
			b = slices.Clone(a)
			b[n].Look = r
			if n != r {
				b[r].Look = 6
			}
			b = append(b, a[n])
			isWeak(t, "one has another's", n == r, a, b)
			isWeak(t, "both have it", true, a, append(b, a[r]))
		}
	}
}

// All kernels of two spots over three kinds, and of three over two.
func TestWeakOfAllSmall(t *testing.T) {
	g := three()
	for _, core := range [][][]int{{{0, 1}, {1, 1}}, {{2, 1}, {2, 2}}, {{0, 1}, {1, 1}, {5, 1}}} {
		kinds := 5 - len(core)
		all := allKernels(core, 1<<kinds)
		often := [2]int{}
		for _, a := range all {
			for _, b := range all {
				want := wordWeak(a, b)
				if is, e := pager.Weak(g, a, b); is != want || e != api.OK {
					t.Fatal(a, b, is, e)
				}
				if want {
					often[1]++
				} else {
					often[0]++
				}
			}
		}
		if often[0] < 40 || often[1] < 500 {
			t.Error(often)
		}
	}
}

// allKernels are all kernels of a core whose Looks are told by the bits of numbers below one.
func allKernels(core [][]int, below int) [][]api.Item {
	if len(core) == 0 {
		return [][]api.Item{nil}
	}
	var l [][]api.Item
	for bits := 1; bits < below; bits++ {
		spot := slices.Clone(core[0])
		for look := range 4 {
			if bits>>look&1 == 1 {
				spot = append(spot, look)
			}
		}
		for _, rest := range allKernels(core[1:], below) {
			l = append(l, append(kernel(spot), rest...))
		}
	}
	return l
}

func TestPairsByChance(t *testing.T) {
	m := newMaker(801)
	var often [3]int
	for range 20000 {
		g := m.plain(1+m.Intn(4), 1+m.Intn(4), 1+m.Intn(4))
		a, b := m.pair(g)
		likePair(t, g, a, b)
		k, l := wordsOf(g).kernel(a), wordsOf(g).kernel(b)
		switch {
		case !isSameCore(k, l):
			often[2]++
		case wordWeak(k, l):
			often[1]++
		default:
			often[0]++
		}
	}
	if slices.Min(often[:]) < 300 {
		t.Error(often)
	}
}

// TestUnite: the kernels alone count, and what they ask for.
func TestUnite(t *testing.T) {
	g := read("S = a A b; S = a A c; A = d A; A =; B = e")
	for what, one := range map[string]struct{ a, b, want []api.Item }{
		"one item":            {kernel([]int{0, 1, 0}), kernel([]int{0, 1, 0}), kernel([]int{0, 1, 0}, []int{2, 0, 3}, []int{3, 0, 3})},
		"other Looks":         {kernel([]int{0, 1, 0}), kernel([]int{0, 1, 5}), kernel([]int{0, 1, 0, 5}, []int{2, 0, 3}, []int{3, 0, 3})},
		"two spots":           {kernel([]int{0, 1, 0}, []int{1, 1, 0}), kernel([]int{1, 1, 1}, []int{0, 1, 0}), kernel([]int{0, 1, 0}, []int{1, 1, 0, 1}, []int{2, 0, 3, 4}, []int{3, 0, 3, 4})},
		"Looks that go on":    {kernel([]int{2, 1, 3}), kernel([]int{2, 1, 4, 0}), kernel([]int{2, 0, 0, 3, 4}, []int{2, 1, 0, 3, 4}, []int{3, 0, 0, 3, 4})},
		"not weak":            {kernel([]int{0, 1, 0}, []int{1, 1, 1}), kernel([]int{0, 1, 1}, []int{1, 1, 0}), kernel([]int{0, 1, 0, 1}, []int{1, 1, 0, 1}, []int{2, 0, 3, 4}, []int{3, 0, 3, 4})},
		"others are left out": {kernel([]int{0, 0, 0}, []int{0, 3, 0}, []int{4, 0, 0}), kernel([]int{0, 3, 2}, []int{2, 0, 1}), kernel([]int{0, 3, 0, 2})},
		"no kernels":          {kernel([]int{0, 0, 0}), kernel([]int{4, 0, 0}), nil},
		"nothing":             {nil, nil, nil},
		"the start's":         {kernel([]int{5, 0, 0}), kernel([]int{5, 0, 0}, []int{1, 0, 1}), kernel([]int{0, 0, 0}, []int{1, 0, 0}, []int{5, 0, 0})},
	} {
		for _, pair := range [][2][]api.Item{{one.a, one.b}, {one.b, one.a}} {
			if l, e := pager.Unite(g, pair[0], pair[1]); e != api.OK || !slices.Equal(l, one.want) {
				t.Error(what, pair, l, e)
			}
			likePair(t, g, pair[0], pair[1])
		}
	}
}

// Kernels of unlike cores: ErrArg of both, whatever the Looks.
func TestUnlikeCores(t *testing.T) {
	g := three()
	cores := [][]api.Item{
		nil,
		kernel([]int{0, 1, 0}),
		kernel([]int{0, 2, 0}),
		kernel([]int{1, 1, 0}),
		kernel([]int{0, 1, 0}, []int{0, 2, 0}),
		kernel([]int{0, 1, 0}, []int{1, 1, 0}),
		kernel([]int{0, 1, 0}, []int{1, 1, 0}, []int{2, 1, 0}),
		kernel([]int{5, 0, 0}),
		kernel([]int{5, 1, 0}),
		kernel([]int{5, 0, 0}, []int{5, 1, 0}),
		kernel([]int{2, 1, 0}, []int{2, 2, 0}),
	}
	for n, a := range cores {
		for r, b := range cores {
			likePair(t, g, a, b)
			_, e := pager.Weak(g, a, append(b, kernel([]int{0, 0, 0, 1}, []int{3, 0, 3})...))
			_, eUnite := pager.Unite(g, append(slices.Clone(a), kernel([]int{1, 0, 0, 1}, []int{4, 0, 3})...), b)
			if want := map[bool]api.Errno{true: api.OK, false: api.ErrArg}[n == r]; e != want || eUnite != want {
				t.Error(a, b, e, eUnite)
			}
		}
	}
}
