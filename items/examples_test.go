package items_test

import (
	"slices"
	"testing"

	"quoin/api"
	"quoin/items"
)

// The chapter's section Examples.

// lists is S = S a | a: the kind a is 2, the rule S 3, the start's production 2.
func lists() api.Plain {
	return api.Plain{Kinds: []string{"end", "error", "a"}, Precs: make([]api.Prec, 3), Rules: []string{"S"}, Prods: []api.Prod{{Right: []int{3, 2}}, {Right: []int{2}}}}
}

// listsAuto is its automaton.
func listsAuto() api.Auto {
	return api.Auto{
		States: [][]api.Item{
			state([3]int{0, 0, 0}, [3]int{0, 0, 2}, [3]int{1, 0, 0}, [3]int{1, 0, 2}, [3]int{2, 0, 0}),
			state([3]int{1, 1, 0}, [3]int{1, 1, 2}),
			state([3]int{0, 1, 0}, [3]int{0, 1, 2}, [3]int{2, 1, 0}),
			state([3]int{0, 2, 0}, [3]int{0, 2, 2}),
		},
		Next: [][]int{{-1, -1, 1, 2}, {-1, -1, -1, -1}, {-1, -1, 3, -1}, {-1, -1, -1, -1}},
	}
}

func TestExamples(t *testing.T) {
	g := lists()
	a, e := items.Build(g)
	if e != api.OK || told(a) != told(listsAuto()) {
		t.Fatal(a, e)
	}
	if e := items.Right(g, a); e != api.OK {
		t.Error(e)
	}
	if l, e := items.Path(a, 3); e != api.OK || !slices.Equal(l, []int{3, 2}) {
		t.Error(l, e)
	}
	if l, e := items.Lines(g, api.Item{Prod: 0, Dot: 1, Look: 2}); e != api.OK || !slices.Equal(l, []string{"S = S . a , a"}) {
		t.Error(l, e)
	}
	if told(read("S = S a; S = a")) != told(g) {
		t.Error("the test is wrong")
	}
}
