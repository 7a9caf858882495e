package print_test

import (
	"slices"
	"testing"

	"quoin/api"
	"quoin/print"
	"quoin/spec"
)

// P9.2: Names, of any tree.

func hasNames(t testing.TB, s api.Spec, want ...string) {
	t.Helper()
	if l := print.Names(s); !slices.Equal(l, want) || !slices.Equal(l, wantNames(s)) {
		t.Errorf("%q, want %q", l, want)
	}
}

func TestNamesOfTexts(t *testing.T) {
	for src, want := range map[string][]string{
		"module M;":                      nil,
		"module M; use U (a as b, c);":   nil,
		"module M; left a b; start s t;": nil,
		"module M; skip = [ ]; token A = \"a\" push in; mode in; token B = \"b\"; skip = [x]; token C = \"c\" pop;": {"A", "B", "C"},
		"module M; type T = C(D, E) | F; type U = G;":                                                               {"T", "U", "C", "F", "G"},
		"module M; rule r(p): T = a b prec P => N($1); open inline rule s = ;":                                      {"r", "s"},
		"module M; start r; rule r = ; type T = C; token A = \"a\"; rule q = ; type S = D; token B = \"b\";":        {"A", "B", "T", "S", "C", "D", "r", "q"},
		// Twice in one group
		"module M; token A = \"a\"; token B = \"b\"; token A = \"c\";": {"A", "B"},
		"module M; type T = C; type S = C | D; type T = D | E;":        {"T", "S", "C", "D", "E"},
		"module M; rule r = ; rule s = ; rule r = ;":                   {"r", "s"},
		// In two
		"module M; rule A = ; token A = \"a\";":                                       {"A"},
		"module M; type T = T | A | r; rule r = ; rule T = ; token A = \"a\";":        {"A", "T", "r"},
		"module M; rule x = ; type x = x; token x = \"a\"; rule y = ; type z = y;":    {"x", "z", "y"},
		"module M; type A = B; type B = A; type C = A | B | C; rule M = ; rule C = ;": {"A", "B", "C", "M"},
		// Letters count.
		"module M; rule a = ; rule A = ; rule a_ = ;": {"a", "A", "a_"},
	} {
		hasNames(t, parsed(t, src), want...)
		form, _ := print.Format(src)
		hasNames(t, parsed(t, form), want...)
	}
}

// Trees that are not right have names likewise, whatever these are.
func TestNamesOfWrongTrees(t *testing.T) {
	hasNames(t, api.Spec{})
	s := api.Spec{
		Uses:  []api.Use{{Module: "U", Names: []api.Rename{{Name: "u", As: "v"}}}},
		Lex:   []api.LexLine{{Name: "rule"}, {Mode: "m"}, {Name: "a b"}, {Name: "rule", Re: api.Regex{Kind: 99}}, {Push: "p"}},
		Precs: []api.PrecLine{{Names: []string{"l"}}},
		Datas: []api.DataLine{
			{Data: api.Data{Name: "9", Ctors: []api.Ctor{{Name: "_", Fields: []string{"f"}}, {Name: "a b"}}}},
			{Data: api.Data{Name: "9"}},
			{Data: api.Data{Name: "_", Ctors: []api.Ctor{{Name: "é"}, {Name: "\xff"}}}},
		},
		Rules:  []api.RuleLine{{Name: "\x00"}, {Name: "9", Params: []string{"p"}, Type: "t"}, {Name: "x", Alts: []api.Alt{{Prec: "q", Syms: refs("y"), Act: node("z")}}}},
		Starts: []string{"s"},
	}
	if spec.Right(s) {
		t.Fatal("the test is wrong")
	}
	hasNames(t, s, "rule", "a b", "9", "_", "é", "\xff", "\x00", "x")
}

// Scanner rules alone may be without a name; of the others the empty name is one as any other.
func TestEmptyNames(t *testing.T) {
	hasNames(t, api.Spec{Lex: []api.LexLine{{}, {Name: "a"}, {}}}, "a")
	hasNames(t, api.Spec{Lex: []api.LexLine{{}, {}}})
	hasNames(t, api.Spec{Lex: []api.LexLine{{}, {Name: "a"}}, Rules: []api.RuleLine{{Name: "r"}, {}, {Name: "a"}, {}}}, "a", "r", "")
	hasNames(t, api.Spec{Datas: []api.DataLine{{Data: api.Data{Ctors: []api.Ctor{{Name: "C"}, {}}}}}, Rules: []api.RuleLine{{}}}, "", "C")
}

func TestManyNames(t *testing.T) {
	var s api.Spec
	var want []string
	for i := range 5000 {
		name := "n" + string(rune(0x4e00+i))
		want = append(want, name)
		s.Rules = append(s.Rules, api.RuleLine{Name: name}, api.RuleLine{Name: want[i/2]})
	}
	if l := print.Names(s); !slices.Equal(l, want) {
		t.Error(len(l))
	}
}
