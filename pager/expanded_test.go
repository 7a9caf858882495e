package pager_test

import (
	"testing"

	"quoin/api"
	"quoin/expand"
	"quoin/items"
	"quoin/pager"
	"quoin/spec"
)

// The automata of a grammar that layer 11 makes of a module, with its rules inlined and as they stand: they are as the words have them, and parses end as by items' one.
func TestExpanded(t *testing.T) {
	s, f := spec.Parse(`module M;
token Num = [0-9]+; token Plus = "+"; token Comma = ","; token Open = "("; token Close = ")";
inline rule opt(x) = | x;
rule list(x) = x | list(x) Comma x;
rule e = e Plus t | t;
rule t = Num | Open list(e) Close;
rule s = list(e) opt(Comma);
start s;`)
	if f != (api.Fault{}) {
		t.Fatal(f)
	}
	m := newMaker(830)
	for _, module := range []api.Spec{s, expand.Clear(s)} {
		g, _, wrong := expand.Grammar(module, "s")
		if len(wrong) > 0 {
			t.Fatal(wrong)
		}
		one, e := items.Build(g)
		a, _, is := likeBuild(t, g)
		l, isToo := likeLalr(t, g)
		if e != api.OK || !is || !isToo || len(a.States) >= len(one.States) || len(a.States) != len(l.States) || items.Right(g, a) != api.OK {
			t.Fatal(text(g), len(one.States), len(a.States), len(l.States))
		}
		if n, e := pager.Cores(g, one); e != api.OK || n != len(a.States) {
			t.Error(n, e)
		}
		clashes := len(clashesOf(g, one))
		if len(clashesOf(g, a)) != clashes || clashes > 0 {
			t.Error(text(g), clashes)
		}
		for range 500 {
			row := m.row(g)
			if o, merged := parse(g, one, row), parse(g, a, row); !endsAlike(o, merged) {
				t.Fatal(text(g), row, o, merged)
			}
		}
	}
}
