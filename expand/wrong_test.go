package expand_test

import (
	"slices"
	"strconv"
	"testing"

	"quoin/api"
	"quoin/expand"
)

// P11.1: what is wrong with a module.

func TestNothingWrong(t *testing.T) {
	isWrong(t, "rule s = ;")
	isWrong(t, "rule s = A B P Q s error;")
	isWrong(t, "rule s = p(A, q) p(error, p(s, s)) prec X | q prec P; rule p(x, y) = x y | ; inline rule q = B; start q z;")
	isWrong(t, "use L (many); use K; type T = C; rule s : T = A => N($1); open rule r: Z = s;") // Uses, types and actions count for nothing here
}

func TestRulesThatAreThere(t *testing.T) {
	isWrong(t, "rule s = A; rule @as = B;", "ErrThere a")
	isWrong(t, "rule s = A; rule @as = B; rule r = ; rule @bs = ; rule @cr = s;", "ErrThere a", "ErrThere b", "ErrThere c")
	isWrong(t, "rule s = ; rule @aA = ; rule r = ;", "ErrThere a")
	isWrong(t, "rule s = ; rule @aerror = ;", "ErrThere a")
	isWrong(t, "rule s = ; rule @aend = ;", "ErrThere a")
	isWrong(t, "rule s = ; rule X = ; rule M = ; rule main = ;") // a level's, the module's and the mode's name are free
	isWrong(t, "rule @aB = ; rule s = ; rule @bB = B; token end = \"e\";", "ErrThere a", "ErrThere b")
	// A kind that comes behind the rule is a kind, too.
	isWrong(t, "rule s = ; rule @ar = ; token r = \"r\";", "ErrThere a")
}

func TestParametersThatAreThere(t *testing.T) {
	isWrong(t, "rule s = ; rule @ar(x, x) = x;", "ErrThere a")
	isWrong(t, "rule s = ; rule @ar(x, y, z, x) = x;", "ErrThere a")
	isWrong(t, "rule s = ; rule @ar(y, x, x, x) = x;", "ErrThere a")
	isWrong(t, "rule s = ; rule @ar(A) = A;", "ErrThere a")
	isWrong(t, "rule s = ; rule @ar(x, B) = ;", "ErrThere a")
	isWrong(t, "rule s = ; rule @ar(end) = ;", "ErrThere a")
	isWrong(t, "rule s = ; rule @ar(error) = ;", "ErrThere a")
	isWrong(t, "rule s = ; rule @ar(r) = ;", "ErrThere a")
	isWrong(t, "rule s = ; rule @ar(s) = ;", "ErrThere a")
	isWrong(t, "rule s = ; rule @ar(q) = ; rule q = ;", "ErrThere a")
	isWrong(t, "rule s = ; rule r(X, M, main) = ; rule q(X, M) = ;") // two rules may have the same parameters
	// Once, however many of them are there.
	isWrong(t, "rule s = ; rule @ar(A, A, s, r) = ;", "ErrThere a")
	// A rule's name and its parameters are told one after the other, and rule by rule.
	isWrong(t, "rule s = ; rule @aA(x, x) = ; rule @bs(B) = ; rule @cr(y, y) = ; rule @dr = ;", "ErrThere a", "ErrThere a", "ErrThere b", "ErrThere b", "ErrThere c", "ErrThere d")
}

func TestSymbolsThatMeanNothing(t *testing.T) {
	isWrong(t, "rule s = @az;", "ErrUnknown a")
	isWrong(t, "rule s = A @aend;", "ErrUnknown a")
	isWrong(t, "rule s = error;")
	isWrong(t, "rule s = @aend(@bz);", "ErrUnknown a", "ErrUnknown b")
	isWrong(t, "rule s = @ax; rule p(x) = x @by;", "ErrUnknown a", "ErrUnknown b") // a parameter is one of its own rule
	isWrong(t, "rule s = p(@az) p(p(@bz)) @cz(A, @dz); rule p(x) = p(@ez) | @fz;", "ErrUnknown a", "ErrUnknown b", "ErrUnknown c", "ErrUnknown d", "ErrUnknown e", "ErrUnknown f")
	isWrong(t, "rule s = @aX @bM @cmain;", "ErrUnknown a", "ErrUnknown b", "ErrUnknown c")
	isWrong(t, "token end = \"e\"; rule s = @aend;", "ErrUnknown a")
	// What is wrong with names does not take them their meaning.
	isWrong(t, "rule s = end; rule @aend = ;", "ErrThere a")
	isWrong(t, "rule s = r(A); rule @ar(end) = end;", "ErrThere a")
	isWrong(t, "rule s = @bend; rule @aend(x) = x;", "ErrThere a", "ErrSort b")
}

func TestOtherNumbersOfArguments(t *testing.T) {
	isWrong(t, "rule s = @ap @bp(A, A) p(A); rule p(x) = x;", "ErrSort a", "ErrSort b")
	isWrong(t, "rule s = @as(A) s;", "ErrSort a")
	isWrong(t, "rule s = @aA(B) @berror(A) A;", "ErrSort a", "ErrSort b")
	isWrong(t, "rule s = A; rule p(x) = @ax(A) x @bx(x);", "ErrSort a", "ErrSort b")
	isWrong(t, "rule s = q(A, B, A, B) @aq(A, B, A) @bq; rule q(a, b, c, d) = ;", "ErrSort a", "ErrSort b")
	// From the outside in, arguments from the left.
	isWrong(t, "rule s = @ap(@bA(@cz), @dp) @ez(@fA(B)); rule p(x) = x;", "ErrSort a", "ErrSort b", "ErrUnknown c", "ErrSort d", "ErrUnknown e", "ErrSort f")
	// Of two rules of one name the first counts; of a parameter and a rule the parameter; of a kind and a rule the kind.
	isWrong(t, "rule s = p(A) @bp; rule p(x) = ; rule @ap = ;", "ErrThere a", "ErrSort b")
	isWrong(t, "rule s = A; rule @aq(p) = p @bp(A); rule p(x) = x;", "ErrThere a", "ErrSort b")
	isWrong(t, "rule s = B @bB(A); rule @aB(x) = x;", "ErrThere a", "ErrSort b")
	isWrong(t, "rule s = error @berror(A); rule @aerror(x) = x;", "ErrThere a", "ErrSort b")
	isWrong(t, "rule s = A; rule @aq(A) = A @bA(B);", "ErrThere a", "ErrSort b")
}

func TestPrecsWithoutLevel(t *testing.T) {
	isWrong(t, "rule s = @aA prec A | A prec P | B prec X | @bB prec z;", "ErrUnknown a", "ErrUnknown b")
	isWrong(t, "rule s = | @aprec s => _; rule r(x) = @bx prec x;", "ErrUnknown a", "ErrUnknown b")
	isWrong(t, "none A; rule s = A prec A | prec X | @aprec error | @bprec end;", "ErrUnknown a", "ErrUnknown b")
	isWrong(t, "none error end s; rule s = prec error | prec end | prec s;") // any name may have a level
}

func TestStarts(t *testing.T) {
	isWrong(t, "rule r = A;", "ErrNone 0")
	isWrong(t, "start s;", "ErrNone 0")
	isWrong(t, "rule r(s) = s;", "ErrNone 0")
	isWrong(t, "rule @as(x) = x;", "ErrSort a")
	isWrong(t, "inline rule @as = A;", "ErrSort a")
	isWrong(t, "inline rule @as(x) = A;", "ErrSort a")
	isWrong(t, "rule s = A; rule @as(x) = x;", "ErrThere a") // the first one counts
	isWrong(t, "rule @bs(x) = x; rule @as = A;", "ErrThere a", "ErrSort b")
	s, places := parsed(t, "rule s = A; start r; rule r = ; inline rule @ai = ; rule @bp(x) = ;")
	for start, want := range map[string]string{"s": "", "r": "", "i": "ErrSort a", "p": "ErrSort b", "A": "ErrNone 0", "error": "ErrNone 0", "end": "ErrNone 0", "": "ErrNone 0", "X": "ErrNone 0", "x": "ErrNone 0", "\xff": "ErrNone 0"} {
		var diags []api.Diag
		if want != "" {
			diags = diagsOf(t, places, []string{want})
		}
		if got := expand.Check(s, start); !slices.Equal(got, diags) {
			t.Errorf("%q: %v, want %v", start, got, diags)
		}
		likeWords(t, s, start)
	}
}

// All of it is told: the kinds of what is wrong one behind the other, whatever their places are.
func TestWrongInOrder(t *testing.T) {
	isWrong(t, "rule q = @cz prec z | @eA(B) prec P; rule @aq(x) = @fx(A) | @gA prec u; inline rule @hs = B; rule @bt(y, y) = y;",
		"ErrThere a", "ErrThere b", "ErrUnknown c", "ErrSort e", "ErrSort f", "ErrUnknown c", "ErrUnknown g", "ErrSort h")
	isWrong(t, "rule r = @bz | @cA prec z; rule @ar = A;", "ErrThere a", "ErrUnknown b", "ErrUnknown c", "ErrNone 0")
	isWrong(t, "rule @bs(x) = @cx prec u | @ay;", "ErrUnknown a", "ErrUnknown c", "ErrSort b")
}

// A module that is not right has nothing else told of it.
func TestNotRight(t *testing.T) {
	right, _ := parsed(t, "rule s = z prec u; rule s = A(A);")
	for i, change := range []func(s *api.Spec){
		func(s *api.Spec) { s.Name = "" },
		func(s *api.Spec) { s.Name = "a b" },
		func(s *api.Spec) { s.Name = "rule" },
		func(s *api.Spec) { s.Rules[0].Name = "" },
		func(s *api.Spec) { s.Rules[0].Alts = nil },
		func(s *api.Spec) { s.Rules[0].Alts[0].Act = api.Act{Kind: api.ActPick, At: 1} },
		func(s *api.Spec) { s.Precs[0].Assoc = api.AssocNone },
		func(s *api.Spec) { s.Lex[0].Re.Kind = 99 },
		func(s *api.Spec) { s.Uses = []api.Use{{}} },
		func(s *api.Spec) { s.Starts = []string{"1"} },
		func(s *api.Spec) { s.Rules[0].Params = []string{"a", "b", "c", "d", "e"} },
		func(s *api.Spec) {
			for i := range 1100 { // more kinds than may be are refused here already
				line := s.Lex[0]
				line.Name = "K" + strconv.Itoa(i)
				s.Lex = append(s.Lex, line)
			}
		},
	} {
		s := clone(right)
		change(&s)
		want := []api.Diag{{Module: s.Name, Why: api.ErrArg}}
		if got := expand.Check(s, "s"); !slices.Equal(got, want) {
			t.Error(i, got)
		}
		if g, types, got := expand.Grammar(s, "s"); !slices.Equal(got, want) || told(g) != told(api.Plain{}) || types != nil {
			t.Error(i, got)
		}
		likeWords(t, s, "s")
	}
	if got := expand.Check(api.Spec{}, ""); !slices.Equal(got, []api.Diag{{Why: api.ErrArg}}) {
		t.Error(got)
	}
}

func TestKinds(t *testing.T) {
	line := func(names ...string) api.Spec {
		var s api.Spec
		for _, name := range names {
			s.Lex = append(s.Lex, api.LexLine{Name: name})
		}
		return s
	}
	for _, c := range []struct{ names, want []string }{
		{nil, nil},
		{[]string{"A"}, []string{"A"}},
		{[]string{"B", "", "A", "", "B", "A", "C"}, []string{"B", "A", "C"}},
		{[]string{"A", "error", "end", "B", "error"}, []string{"A", "B"}},
		{[]string{"END", "Error", "rule", "\xff", "1 2"}, []string{"END", "Error", "rule", "\xff", "1 2"}}, // of any tree
	} {
		want := append([]string{"end", "error"}, c.want...)
		if got := expand.Kinds(line(c.names...)); !slices.Equal(got, want) {
			t.Errorf("%q: %q", c.names, got)
		}
		likeWords(t, line(c.names...), "s")
	}
	if got := expand.Kinds(api.Spec{Name: "M", Rules: []api.RuleLine{{Name: "r"}}, Precs: []api.PrecLine{{Names: []string{"P"}}}}); !slices.Equal(got, []string{"end", "error"}) {
		t.Error(got)
	}
	var many []string
	for i := range 3000 {
		many = append(many, "K"+strconv.Itoa(i%1500))
	}
	if got := expand.Kinds(line(many...)); len(got) != 1502 || got[1501] != "K1499" {
		t.Error(len(got))
	}
	s, _ := parsed(t, `mode in; token C = "c"; skip = " "; token A = "x"; token end = "e"; rule s = C;`)
	g, _, _ := likeWords(t, s, "s")
	if want := []string{"end", "error", "A", "B", "P", "Q", "C"}; !slices.Equal(expand.Kinds(s), want) || !slices.Equal(g.Kinds, want) {
		t.Error(expand.Kinds(s), g.Kinds)
	}
}

// As many kinds as a module may have, and one more, which is no module's: so more than MaxKinds never come.
func TestManyKinds(t *testing.T) {
	s := api.Spec{Name: "M", Rules: []api.RuleLine{{Name: "s", Alts: []api.Alt{{Syms: []api.Ref{{Name: "K255"}, {Name: "s"}}}}}}}
	for i := range 256 {
		s.Lex = append(s.Lex, api.LexLine{Mode: "main", Name: "K" + strconv.Itoa(i), Re: api.Regex{Kind: api.ReEmpty}})
	}
	g, _, d := likeWords(t, s, "s")
	if len(d) > 0 || len(g.Kinds) != 258 || len(g.Precs) != 258 || !slices.Equal(g.Prods[0].Right, []int{257, 258}) {
		t.Error(g, d)
	}
	s.Lex = append(s.Lex, api.LexLine{Mode: "main", Name: "L", Re: api.Regex{Kind: api.ReEmpty}})
	if _, _, d := likeWords(t, s, "s"); !slices.Equal(d, []api.Diag{{Module: "M", Why: api.ErrArg}}) {
		t.Error(d)
	}
}
