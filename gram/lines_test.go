package gram_test

import (
	"slices"
	"strings"
	"testing"

	"quoin/api"
	"quoin/gram"
)

// C4: Lines.

func isLined(t *testing.T, g api.Plain, want ...string) {
	t.Helper()
	if l, e := gram.Lines(g); e != api.OK || !slices.Equal(l, want) {
		t.Errorf("%q, %v, not %q", l, e, want)
	}
}

func TestLines(t *testing.T) {
	isLined(t, read("S"))
	isLined(t, read("S ="), "S =")
	isLined(t, read("S =; A = a; S = b A error A S; A =; S = a"), "S =", "A = a", "S = b A error A S", "A =", "S = a")
	isLined(t, read("S = S; S = S"), "S = S", "S = S")
	g := read("S = A b; A = a S; A =")
	g.Rules = []string{"many(A, list(b))", " =\n"}
	g.Start = 1
	g.Prods[1].Level, g.Prods[1].Act = 7, api.Act{Kind: api.ActNode, Name: "N"}
	isLined(t, g, "many(A, list(b)) =  =\n b", " =\n = a many(A, list(b))", " =\n =")
	g.Rules = []string{"a", "end"} // a rule may have a kind's name
	isLined(t, g, "a = end b", "end = a a", "end =")
}

func TestLongLines(t *testing.T) {
	g := read("S =; A =")
	g.Rules[1] = strings.Repeat("x", api.MaxQuote)
	g.Prods[0].Right = slices.Repeat([]int{3}, api.MaxRight)
	g.Prods[1].Right = slices.Repeat([]int{1}, api.MaxRight)
	isLined(t, g, "S ="+strings.Repeat(" "+g.Rules[1], 64), g.Rules[1]+" ="+strings.Repeat(" error", 64))
}
