package table_test

import (
	"testing"

	"quoin/api"
	"quoin/expand"
	"quoin/pager"
	"quoin/solve"
	"quoin/spec"
	"quoin/table"
)

// The table of a grammar that layer 11 makes of a module with levels, by its merged automaton.
func TestExpanded(t *testing.T) {
	s, f := spec.Parse(`module M;
token Num = [0-9]+; token Plus = "+"; token Times = "*"; token Power = "^"; token Minus = "-"; token Open = "("; token Close = ")"; token Sign = "~"; token Comma = ",";
left Plus Minus; left Times; right Power; right Sign;
rule list(x) = x | list(x) Comma x;
rule e = e Plus e | e Minus e | e Times e | e Power e | Minus e prec Sign | Open list(e) Close | Num;
start e;`)
	if f != (api.Fault{}) {
		t.Fatal(f)
	}
	g, _, wrong := expand.Grammar(s, "e")
	if len(wrong) > 0 {
		t.Fatal(wrong)
	}
	a, e := pager.Build(g)
	if e != api.OK {
		t.Fatal(e)
	}
	x, l, e := solve.Solve(g, a)
	if e != api.OK || !solve.Settled(l...) {
		t.Fatal(l, e)
	}
	likeWords(t, g, x)
	if n, e := table.Sound(g, x); n != 0 || e != api.OK {
		t.Error(n, e)
	}
	p, e := table.Pack(x, len(g.Kinds), len(g.Rules), len(g.Prods))
	y, eUnpack := table.Unpack(p)
	if e != api.OK || eUnpack != api.OK || len(p.Cell) >= len(x.Moves)*len(g.Kinds) {
		t.Fatal(len(p.Cell), e, eUnpack)
	}
	for row, want := range map[string]bool{
		"Num Plus Num Times Num":               true,
		"Open Num Comma Minus Num Close":       true,
		"Open Open Num Close Power Num Close":  true,
		"Open Num Comma Close":                 false,
		"Num Num":                              false,
		"Num Plus":                             false,
		"Open Num Comma Num Comma Num Plus":    false,
		"Minus Minus Num Minus Num":            true,
		"Close":                                false,
		"Open Num Close Close Num":             false,
		"Num Power Open Num Plus Num Close":    true,
		"Num Power Open Num Plus Num Sign Num": false,
	} {
		one, other := parse(g, x, symbols(g, row)...), parse(g, y, symbols(g, row)...)
		if one.isTaken != want || told(one) != told(other) {
			t.Error(row, one, other)
		}
	}
}
