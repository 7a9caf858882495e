package solve_test

import (
	"slices"
	"testing"

	"quoin/api"
	"quoin/derive"
	"quoin/expand"
	"quoin/pager"
	"quoin/solve"
	"quoin/spec"
)

// A grammar that layer 11 makes of a module with levels, by its merged automaton.
func TestExpanded(t *testing.T) {
	s, f := spec.Parse(`module M;
token Num = [0-9]+; token Plus = "+"; token Times = "*"; token Power = "^"; token Less = "<"; token Minus = "-"; token Open = "("; token Close = ")"; token Sign = "~";
none Less; left Plus Minus; left Times; right Power; right Sign;
rule e = e Less e | e Plus e | e Minus e | e Times e | e Power e | Minus e prec Sign | Open e Close | Num;
start e;`)
	if f != (api.Fault{}) {
		t.Fatal(f)
	}
	g, _, wrong := expand.Grammar(s, "e")
	if len(wrong) > 0 {
		t.Fatal(wrong)
	}
	a, e := pager.Build(g)
	if e != api.OK {
		t.Fatal(e)
	}
	x, l := likeWords(t, g, a)
	if len(l) != 6*5 || !solve.Settled(l...) {
		t.Error(len(l))
	}
	for row, want := range map[string]string{
		"Num Plus Num Minus Num":              "((Num Plus Num) Minus Num)",
		"Num Minus Num Times Num":             "(Num Minus (Num Times Num))",
		"Num Power Num Power Num":             "(Num Power (Num Power Num))",
		"Minus Num Power Num":                 "((Minus Num) Power Num)",
		"Minus Minus Num Less Num Plus Num":   "((Minus (Minus Num)) Less (Num Plus Num))",
		"Open Num Plus Num Close Times Num":   "((Open (Num Plus Num) Close) Times Num)",
		"Num Less Num Less Num":               "3",
		"Num Less Open Num Less Num Close":    "(Num Less (Open (Num Less Num) Close))",
		"Num Power Minus Num Times Minus Num": "((Num Power (Minus Num)) Times (Minus Num))",
	} {
		kinds := symbols(g, row)
		o := parse(g, x, kinds...)
		got := told(o.at)
		if o.isTaken {
			got = treeText(g, o.tree)
			if !derive.Check(g, o.tree, kinds...) {
				t.Error(row, "it is no derivation")
			}
		}
		if got != want {
			t.Errorf("%s: %s, not %s", row, got, want)
		}
	}
	plain := clone(g)
	plain.Precs = slices.Repeat([]api.Prec{{}}, len(g.Kinds))
	if _, l, e := solve.Solve(plain, a); e != api.OK || len(l) != 6*5 || solve.Settled(l...) || solve.Settled(l[7]) {
		t.Error(len(l), e)
	}
}
