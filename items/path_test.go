package items_test

import (
	"math"
	"slices"
	"testing"

	"quoin/api"
	"quoin/items"
)

// J4: Path.

// ways is an automaton that has these rows as Next; its states have no items.
func ways(next ...[]int) api.Auto {
	return api.Auto{States: make([][]api.Item, len(next)), Next: next}
}

func isPath(t *testing.T, a api.Auto, state int, want ...int) {
	t.Helper()
	if l, e := items.Path(a, state); e != api.OK || !slices.Equal(l, want) {
		t.Error(a.Next, state, l, e)
	}
	if l, is := wordPath(a, state); !is || !slices.Equal(l, want) {
		t.Error("the test is wrong:", a.Next, state, l, is)
	}
}

func hasNoPath(t *testing.T, a api.Auto, want api.Errno, states ...int) {
	t.Helper()
	for _, state := range states {
		if l, e := items.Path(a, state); e != want || len(l) > 0 {
			t.Error(a, state, l, e)
		}
	}
}

func TestPaths(t *testing.T) {
	a := listsAuto()
	isPath(t, a, 0)
	isPath(t, a, 1, 2)
	isPath(t, a, 2, 3)
	isPath(t, a, 3, 3, 2)
	isPath(t, ways([]int{0}), 0)
	isPath(t, ways([]int{-1}), 0)
	isPath(t, ways(nil), 0)
	isPath(t, ways([]int{1, 0}, []int{0, 0}), 0)
	isPath(t, ways([]int{-1, 1}, []int{2, -1}, []int{0, 3}, []int{-1, -1}), 3, 1, 0, 1)
	// The shorter row, though its symbols are greater; by the end, too, as Next alone counts.
	isPath(t, ways([]int{1, -1, 2}, []int{2, -1, -1}, []int{-1, -1, -1}), 2, 2)
	isPath(t, ways([]int{1, 0}, []int{-1, -1}), 1, 0)
}

// Of several shortest rows the least, symbol by symbol, whatever the states' numbers.
func TestSeveralPaths(t *testing.T) {
	isPath(t, ways([]int{-1, 1, 1, 1}, []int{-1, -1, -1, -1}), 1, 1)
	isPath(t, ways([]int{-1, 2, 1}, []int{3, -1, -1}, []int{-1, -1, 3}, []int{-1, -1, -1}), 3, 1, 2)
	isPath(t, ways([]int{-1, 1, 2}, []int{-1, -1, 3}, []int{3, -1, -1}, []int{-1, -1, -1}), 3, 1, 2)
	isPath(t, ways([]int{3, 2, 1}, []int{4, 4, 4}, []int{4, 4, 4}, []int{-1, 4, 4}, []int{0, 1, 2}), 4, 0, 1)
	isPath(t, ways([]int{2, 1}, []int{3, -1}, []int{-1, 4}, []int{5, -1}, []int{-1, 5}, []int{-1, -1}), 5, 0, 1, 1)
}

func TestNoPath(t *testing.T) {
	a := ways([]int{-1, 1}, []int{0, 1}, []int{0, 1}, []int{2, 3})
	hasNoPath(t, a, api.ErrNone, 2, 3)
	isPath(t, a, 1, 1)
	hasNoPath(t, a, api.ErrArg, -1, 4, 5, math.MinInt, math.MaxInt)
	hasNoPath(t, ways(nil, nil), api.ErrNone, 1)
	hasNoPath(t, ways(nil, nil), api.ErrArg, -1, 2)
	hasNoPath(t, ways([]int{0}), api.ErrArg, -1, 1, math.MinInt, math.MaxInt)
}

// What is no automaton is told first, whatever the state is.
func TestPathOfNoAutomaton(t *testing.T) {
	for what, turn := range map[string]func(a *api.Auto){
		"nothing":               func(a *api.Auto) { *a = api.Auto{} },
		"empty lists":           func(a *api.Auto) { *a = api.Auto{States: [][]api.Item{}, Next: [][]int{}} },
		"no state":              func(a *api.Auto) { a.States = nil },
		"no rows":               func(a *api.Auto) { a.Next = nil },
		"a row too few":         func(a *api.Auto) { a.Next = a.Next[:3] },
		"a row too many":        func(a *api.Auto) { a.Next = append(a.Next, a.Next[3]) },
		"a state too few":       func(a *api.Auto) { a.States = a.States[:3] },
		"a longer row":          func(a *api.Auto) { a.Next[3] = append(a.Next[3], -1) },
		"a longer row first":    func(a *api.Auto) { a.Next[0] = append(a.Next[0], -1) },
		"a shorter row":         func(a *api.Auto) { a.Next[2] = a.Next[2][:3] },
		"an empty row":          func(a *api.Auto) { a.Next[1] = nil },
		"an empty row first":    func(a *api.Auto) { a.Next[0] = nil },
		"a number below -1":     func(a *api.Auto) { a.Next[1][0] = -2 },
		"far below":             func(a *api.Auto) { a.Next[0][1] = math.MinInt },
		"a number beyond":       func(a *api.Auto) { a.Next[3][3] = 4 },
		"far beyond":            func(a *api.Auto) { a.Next[3][0] = math.MaxInt },
		"rows of another state": func(a *api.Auto) { a.States, a.Next = a.States[:1], a.Next[:1] },
	} {
		a := listsAuto()
		turn(&a)
		for _, state := range []int{0, 1, 3, 4, -1, math.MinInt, math.MaxInt} {
			if l, e := items.Path(a, state); e != api.ErrAuto || len(l) > 0 {
				t.Error(what, state, l, e)
			}
		}
	}
}

// Nothing but Next is looked at: neither items, nor how many symbols there are, nor limits.
func TestPathOfAnyItems(t *testing.T) {
	a := listsAuto()
	a.States = [][]api.Item{nil, state([3]int{-7, -7, -7}), nil, {}}
	isPath(t, a, 3, 3, 2)
	const n = api.MaxStates + 2
	long := ways(slices.Repeat([][]int{nil}, n)...)
	for s := range n {
		long.Next[s] = []int{min(s+1, n-1), -1}
	}
	if l, e := items.Path(long, n-1); e != api.OK || len(l) != n-1 || slices.Max(l) != 0 {
		t.Error(len(l), e)
	}
}

func TestPathsByChance(t *testing.T) {
	m := newMaker(704)
	var often [2]int
	for range 20000 {
		a := m.graph(1+m.Intn(6), m.Intn(5))
		for s := range a.States {
			want, is := wordPath(a, s)
			l, e := items.Path(a, s)
			if is != (e == api.OK) || !is && e != api.ErrNone || !slices.Equal(l, want) {
				t.Fatal(a.Next, s, l, e, "not", want)
			}
			if is {
				often[1]++
			} else {
				often[0]++
			}
		}
	}
	if often[0] < 5000 || often[1] < 5000 {
		t.Error(often)
	}
}
