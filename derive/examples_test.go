package derive_test

import (
	"testing"

	"quoin/api"
	"quoin/derive"
)

// The chapter's section Examples.

// sums is E = E + E | n, with the kinds + and n as 2 and 3.
func sums() api.Plain {
	return api.Plain{Kinds: []string{"end", "error", "plus", "n"}, Precs: make([]api.Prec, 4), Rules: []string{"E"}, Prods: []api.Prod{{Right: []int{4, 2, 4}}, {Right: []int{3}}}}
}

func TestExample1(t *testing.T) {
	g := sums()
	for _, x := range []struct {
		row  []int
		want int
	}{{[]int{3}, 1}, {[]int{3, 2, 3}, 1}, {[]int{3, 2, 3, 2, 3}, 2}, {[]int{2}, 0}} {
		if n, e := derive.Count(g, x.row...); n != x.want || e != api.OK {
			t.Error("Count", x.row, n, e)
		}
		likeWords(t, g, x.row...)
	}
	isTree(t, g, "E0(E1(0) 1 E0(E1(2) 3 E1(4)))", 3, 2, 3, 2, 3)
	isViable(t, g, 2, 3, 2, 2)
	isViable(t, g, 0, 2)
}

func TestExample2(t *testing.T) {
	g := read("S = S; S = a")
	if n, e := derive.Count(g, 2); n != 2 || e != api.OK {
		t.Error(n, e)
	}
	isTree(t, g, "S1(0)", 2)
	isViable(t, read("S = S"), -1)
}
