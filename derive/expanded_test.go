package derive_test

import (
	"testing"

	"quoin/api"
	"quoin/derive"
	"quoin/expand"
	"quoin/spec"
)

// Grammars that layer 11 makes of a module, with its rules inlined and as they stand, derive the same rows, and as often.
func TestExpanded(t *testing.T) {
	s, f := spec.Parse(`module M;
token Num = [0-9]+; token Plus = "+"; token Times = "*"; token Comma = ",";
inline rule op = Plus | Times;
inline rule opt(x) = | x;
rule list(x) = x | list(x) Comma x;
rule e = e op e | Num;
rule s = list(e) opt(Comma);
start s;`)
	if f != (api.Fault{}) {
		t.Fatal(f)
	}
	g, _, wrong := expand.Grammar(s, "s")
	plainer, _, wrongToo := expand.Grammar(expand.Clear(s), "s")
	if len(wrong)+len(wrongToo) > 0 || len(g.Rules) >= len(plainer.Rules) {
		t.Fatal(wrong, wrongToo, g.Rules, plainer.Rules)
	}
	m := newMaker(611)
	var often [3]int
	for range 2000 {
		row, _, e := derive.Sentence(g, m.choices(20), 9)
		if e != api.OK {
			t.Fatal(row, e)
		}
		if m.Intn(2) == 0 {
			row[m.Intn(len(row))] = m.kind(g)
		}
		n := follows(t, g, row)
		if other := follows(t, plainer, row); other != n {
			t.Fatal(row, n, other)
		}
		often[n]++
	}
	if often[0] < 200 || often[1] < 200 || often[2] < 200 {
		t.Error(often)
	}
}
