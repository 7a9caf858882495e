package items_test

import (
	"testing"

	"quoin/api"
	"quoin/derive"
	"quoin/expand"
	"quoin/items"
	"quoin/spec"
)

// An automaton of a grammar that layer 11 makes of a module, with its rules inlined and as they stand: it is as the words have it, and its states lead on along each beginning of a row that is derived.
func TestExpanded(t *testing.T) {
	s, f := spec.Parse(`module M;
token Num = [0-9]+; token Plus = "+"; token Comma = ","; token Open = "("; token Close = ")";
inline rule opt(x) = | x;
rule list(x) = x | list(x) Comma x;
rule e = e Plus t | t;
rule t = Num | Open list(e) Close;
rule s = list(e) opt(Comma);
start s;`)
	if f != (api.Fault{}) {
		t.Fatal(f)
	}
	for _, m := range []api.Spec{s, expand.Clear(s)} {
		g, _, wrong := expand.Grammar(m, "s")
		if len(wrong) > 0 {
			t.Fatal(wrong)
		}
		want, is := wordsOf(g).auto(100, startItem(g))
		a, e := items.Build(g)
		if !is || e != api.OK || told(a) != told(want) || items.Right(g, a) != api.OK || len(a.States) < 20 {
			t.Fatal(text(g), len(a.States), e)
		}
		leadsAlong(t, g, a)
	}
}

// leadsAlong goes along derivations of rows: as symbols come, and when a production's are there, by its rule in their place.
func leadsAlong(t *testing.T, g api.Plain, a api.Auto) {
	t.Helper()
	m := newMaker(715)
	for range 200 {
		var choices []int
		for range m.Intn(12) {
			choices = append(choices, m.Intn(20))
		}
		row, d, e := derive.Sentence(g, choices, 12)
		if e != api.OK {
			t.Fatal(choices, e)
		}
		row = append(row, api.KindEnd)
		var along func(d api.Deriv, s, symbol int) int
		along = func(d api.Deriv, s, symbol int) int {
			if d.Prod == -1 {
				row = row[1:]
				return a.Next[s][symbol]
			}
			at := s
			for i, k := range d.Kids {
				at = along(k, at, g.Prods[d.Prod].Right[i])
			}
			if whole := (api.Item{Prod: d.Prod, Dot: len(d.Kids), Look: row[0]}); items.Check(g, whole) != api.OK || !has(a.States[at], whole) {
				t.Fatal(text(g), d, at, whole)
			}
			return a.Next[s][symbol]
		}
		if s := along(d, 0, len(g.Kinds)+g.Start); !has(a.States[s], api.Item{Prod: len(g.Prods), Dot: 1}) || len(row) != 1 {
			t.Fatal(text(g), d, s)
		}
	}
}

func has(l []api.Item, i api.Item) bool {
	for _, j := range l {
		if i == j {
			return true
		}
	}
	return false
}
