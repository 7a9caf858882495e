package gram_test

import (
	"slices"
	"testing"

	"quoin/api"
	"quoin/gram"
)

// The chapter's section Examples.

func TestExample1(t *testing.T) {
	g := read("S = A b; A = a A; A =")
	if len(g.Kinds) != 4 || g.Kinds[2] != "a" || g.Rules[1] != "A" {
		t.Fatal("the test is wrong")
	}
	r, e := gram.Look(g)
	if e != api.OK || ruleNames(g, r.Nullable) != "A" || !slices.Equal(r.First[0], []int{2, 3}) || !slices.Equal(r.Follow[1], []int{3}) {
		t.Error(r, e)
	}
	if n, is, e := gram.Least(g, 0); n != 1 || !is || e != api.OK {
		t.Error(n, is, e)
	}
	if l, e := gram.Row(g, 0); !slices.Equal(l, []int{3}) || e != api.OK {
		t.Error(l, e)
	}
	if l, e := gram.Lines(g); !slices.Equal(l, []string{"S = A b", "A = a A", "A ="}) || e != api.OK {
		t.Error(l, e)
	}
	likeWords(t, g)
}

func TestExample2(t *testing.T) {
	g := read("S = S")
	if r, e := gram.Look(g); e != api.OK || !r.Cyclic[0] || r.Productive[0] {
		t.Error(r, e)
	}
	likeWords(t, g)
}
