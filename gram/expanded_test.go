package gram_test

import (
	"testing"

	"quoin/api"
	"quoin/expand"
	"quoin/gram"
	"quoin/spec"
)

// What layer 11 makes of a module is a grammar that may be.
func TestExpanded(t *testing.T) {
	s, f := spec.Parse(`module M;
token Num = [0-9]+; token Plus = "+"; token Times = "*"; skip = " ";
left Plus; left Times;
type E = Add(E, E) | Mul(E, E) | Num(text) | Many(E, E) | None;
inline rule op = Plus;
rule list(x): E = => None | list(x) x => Many($1, $2);
rule e: E = e op e => Add($1, $3) | e Times e => Mul($1, $3) | Num => Num($1);
rule s: E = list(e);
start s;`)
	if f != (api.Fault{}) {
		t.Fatal(f)
	}
	g, _, wrong := expand.Grammar(s, "s")
	if len(wrong) > 0 {
		t.Fatal(wrong)
	}
	likeWords(t, g)
	isLined(t, g, "s = list(e)", "list(e) =", "list(e) = list(e) e", "e = e Plus e", "e = e Times e", "e = Num")
	r, e := gram.Look(g)
	if e != api.OK || ruleNames(g, r.Nullable) != "s list(e)" || names(g, r.Follow[2]) != "end Num Plus Times" {
		t.Error(r, e)
	}
}
