package compose_test

import (
	"slices"
	"strconv"
	"strings"
	"testing"

	"quoin/api"
	"quoin/compose"
)

// D1: what is wrong from 4 to 7.

const openK = `module K; open rule a = ; open rule b(x) = x; rule c = ; open inline rule d: T = ; open rule e = ;`

func TestUsedNamesThatAreNone(t *testing.T) {
	isWrong(t, []string{`module M; @ause K (z);`, openK}, "M ErrNone a")
	isWrong(t, []string{`module M; @ause K (z, a, y as w, c, z); @buse K (x as b, b);`, openK},
		"M ErrNone a", "M ErrNone a", "M ErrClosed a", "M ErrNone a", "M ErrNone b")
	// A used name of that module, a kind, a type, a parameter, a start is none of its rules.
	isWrong(t, []string{`module M; @ause L (a, A, T, C, x, q, z);`, `module L; use K (a); token A = "a"; type T = C; rule r(x) = x; start q;`, openK},
		"M ErrNone a", "M ErrNone a", "M ErrNone a", "M ErrNone a", "M ErrNone a", "M ErrNone a", "M ErrNone a")
	// It is no used name then: nothing is there twice by it, nothing is extended, and its As means nothing.
	isWrong(t, []string{`module M; @ause K (z as a, a as y); use K (a); rule y_ = y a; rule p(a_) = ;`, openK}, "M ErrNone a")
	isWrong(t, []string{`module M; @ause K (z as a); rule r(a) = @bq a; rule q = ;`, openK}, "M ErrNone a")
	isWrong(t, []string{`module M; @ause K (z as q); rule r = @bq;`, openK}, "M ErrNone a", "M ErrUnknown b")
	isWrong(t, []string{`module M; @ause K (z as q); rule q = ;`, openK}, "M ErrNone a")
	isWrong(t, []string{`module M; @ause K (z as q); open rule q(x): T = ;`, openK}, "M ErrNone a")
	isWrong(t, []string{`module M; @ause K (q); rule q = ;`, `module K; rule p = ;`}, "M ErrNone a")
}

func TestUsedNamesThatAreClosed(t *testing.T) {
	isWrong(t, []string{`module M; @ause K (c);`, openK}, "M ErrClosed a")
	isWrong(t, []string{`module M; @ause K (c as b, a); rule r = b a;`, openK}, "M ErrClosed a")
	// It is told ahead of ErrThere, of each; and it is a used name still.
	isWrong(t, []string{`module M; @ause K (a, c as a, c as r, c); rule @br(c) = ;`, openK},
		"M ErrClosed a", "M ErrClosed a", "M ErrClosed a", "M ErrThere b")
}

func TestUsedNamesThatAreClosedStay(t *testing.T) {
	isWrong(t, []string{`module M; @ause K (c); rule @br(c) = c;`, openK}, "M ErrClosed a", "M ErrThere b")
	isWrong(t, []string{`module M; @ause K (c); @buse K (a as c);`, openK}, "M ErrClosed a", "M ErrThere b")
	isWrong(t, []string{`module M; @ause K (c); open rule c = ;`, openK}, "M ErrClosed a")
	isWrong(t, []string{`module M; @ause K (c); open rule @bc(x) = ;`, openK}, "M ErrClosed a", "M ErrClash b")
}

func TestUsedNamesThatAreThere(t *testing.T) {
	// By a used name ahead.
	isWrong(t, []string{`module M; @ause K (a, a);`, openK}, "M ErrThere a")
	isWrong(t, []string{`module M; @ause K (a, b as a, e as a);`, openK}, "M ErrThere a", "M ErrThere a")
	isWrong(t, []string{`module M; use K (a); @ause K (a);`, openK}, "M ErrThere a")
	isWrong(t, []string{`module M; use K (a as b, b as a);`, openK})
	isWrong(t, []string{`module M; use K (a); @ause L (b as a); use L;`, openK, `module L; open rule b = ;`}, "M ErrThere a")
	isWrong(t, []string{`module M; use K; @ause L;`, openK, `module L; open rule b = ; open rule y = ; open rule d = ; rule a = ;`}, "M ErrThere a", "M ErrThere a")
	isWrong(t, []string{`module M; use K; @ause K;`, openK}, "M ErrThere a", "M ErrThere a", "M ErrThere a", "M ErrThere a")
	isWrong(t, []string{`module M; use K (a as e); @ause K;`, openK}, "M ErrThere a")
	isWrong(t, []string{`module M; use K; @ause K (a, a as f, a as f);`, openK}, "M ErrThere a", "M ErrThere a")
	// By an own rule that is not open, wherever it stands.
	isWrong(t, []string{`module M; @ause K (a); rule a = ;`, openK}, "M ErrThere a")
	isWrong(t, []string{`module M; rule a = ; @ause K (b as a, a as b);`, openK}, "M ErrThere a")
	isWrong(t, []string{`module M; @ause K; rule a = ; rule c = ; inline rule e = ;`, openK}, "M ErrThere a", "M ErrThere a")
	isWrong(t, []string{`module M; use K (a as c); rule a = ;`, openK})
	// By one that is open it is not there: this extends.
	isWrong(t, []string{`module M; use K (a); open rule a = ;`, openK})
	isWrong(t, []string{`module M; use K; open rule a = ; open rule b(y) = ; open inline rule d: T = ;`, openK})
	// By both kinds of own rules of one name.
	isWrong(t, []string{`module M; @ause K (a); open rule a = ; rule @ba = ;`, openK}, "M ErrThere a", "M ErrThere b")
	isWrong(t, []string{`module M; @ause K (a); rule a = ; open rule @ba = ;`, openK}, "M ErrThere a", "M ErrThere b")
	// Kinds, types and parameters are no rules.
	isWrong(t, []string{`module M; use K (a as A, b as T, e as x); token A = "a"; type T = C;`, openK})
	// A module without open rules gives nothing.
	isWrong(t, []string{`module M; use K; @ause L; rule a = ; rule @br = @ca b(a); rule z = @dy;`, `module K; rule y = ;`, `module L; open rule b(x) = ; open rule a = ;`}, "M ErrThere a", "M ErrUnknown d")
	// Other modules' names do not matter.
	isWrong(t, []string{`module M; use K; use L;`, openK, `module L; use K (a as f); open rule f = ; rule a = ; rule e = ;`})
}

func TestOwnRulesThatAreThere(t *testing.T) {
	isWrong(t, []string{`module M; rule r = ; rule s = ; rule @ar = ; open rule @bs = ; rule t = ; inline rule @cr(x): T = ;`}, "M ErrThere a", "M ErrThere b", "M ErrThere c")
	isWrong(t, []string{`module M; use L; rule r = ;`, `module L; rule r = ; rule @ar = ;`}, "L ErrThere a")
	isWrong(t, []string{`module M; use L; rule r = ;`, `module L; rule r = ;`})
	// Its heads are not held against anything then.
	isWrong(t, []string{`module M; use K (a); open rule a = ; open rule @aa(x) = ;`, openK}, "M ErrThere a")
	isWrong(t, []string{`module M; use K (a); open rule @aa(x) = ; open rule @ba = ;`, openK}, "M ErrClash a", "M ErrThere b")
	// Parameters: an own rule's name, its own too, ahead or behind.
	isWrong(t, []string{`module M; rule @ar(r) = ;`}, "M ErrThere a")
	isWrong(t, []string{`module M; rule @ar(x, s, y) = ; rule s(z) = ; rule @bt(y, z, x, r) = ;`}, "M ErrThere a", "M ErrThere b")
	isWrong(t, []string{`module M; rule @ar(s, t) = ; open rule s = ; rule t = ;`}, "M ErrThere a")
	// A used name, by what it is called here.
	isWrong(t, []string{`module M; use K (a as x); rule @ar(x) = ; rule s(a) = ;`, openK}, "M ErrThere a")
	isWrong(t, []string{`module M; use K; rule @ar(a) = ; rule s(c) = ; rule @bt(z, e) = ; rule w(x) = ;`, openK}, "M ErrThere a", "M ErrThere b")
	// A kind, of any module in the order, and of no other one.
	isWrong(t, []string{`module M; token A = "a"; rule @ar(A) = ;`}, "M ErrThere a")
	isWrong(t, []string{`module M; use L; use K; rule @ar(x, B) = ; rule s(C) = ;`, `module L; rule @bq(A) = ; open rule p(x, D) = ;`, `module K; token A = "a"; token B = "b"; rule @ct(B) = ;`, `module N; token C = "c"; token D = "d";`},
		"M ErrThere a", "L ErrThere b", "K ErrThere c")
	// Several at one rule are told once.
	isWrong(t, []string{`module M; token A = "a"; rule r = ; rule @ar(A, r, A, r) = ;`}, "M ErrThere a")
	// What a parameter may be called: as another parameter, a type, a constructor, a mode, a module, error, end.
	isWrong(t, []string{`module M; mode in; skip = "a"; type T = C; rule r(x, x, T, C) = ; rule s(in, M, error, end) = error end;`})
}

func TestExtensionsThatClash(t *testing.T) {
	for head, clash := range map[string]bool{
		`open rule a`:               false,
		`open rule a(x)`:            true,
		`open rule a: T`:            true,
		`open inline rule a`:        true,
		`open rule b(y)`:            false,
		`open rule b`:               true,
		`open rule b(y, z)`:         true,
		`open rule b(y): T`:         true,
		`open inline rule b(y)`:     true,
		`open inline rule b(y): U`:  true,
		`open inline rule d: T`:     false,
		`open rule d: T`:            true,
		`open inline rule d: U`:     true,
		`open inline rule d`:        true,
		`open inline rule d(x): T`:  true,
		`open rule f`:               false, // no used name
		`open inline rule g(y): T`:  false,
		`rule h(x): T`:              false,
		`open inline rule c(x): UU`: false, // K's c is not open
	} {
		head = strings.Replace(head, "rule ", "rule @a", 1)
		var want []string
		if clash {
			want = append(want, "M ErrClash a")
		}
		isWrong(t, []string{`module M; use K; ` + head + ` = ;`, openK}, want...)
	}
	// Several, and in several modules, in the order.
	isWrong(t, []string{`module M; use L (l as a); use K (b); open rule @aa: T = ; open rule @bb = ;`, `module L; use K (a as l, e); open rule l = ; open rule @ce(x) = ;`, openK},
		"M ErrClash a", "M ErrClash b", "L ErrClash c")
	// By another name.
	isWrong(t, []string{`module M; use K (a as q, b as a); open rule @aq(x) = ; open rule a(y) = ;`, openK}, "M ErrClash a")
}

// An extension of an extension is held against what it comes to in the end.
func TestExtensionsOfExtensionsThatClash(t *testing.T) {
	middle := `module L; use K (b as c); open rule @zc = ;`
	isWrong(t, []string{`module M; use L (c as d); open rule d(y) = ;`, middle, openK}, "L ErrClash z")
	isWrong(t, []string{`module M; use L (c as d); open rule @ad = ;`, middle, openK}, "M ErrClash a", "L ErrClash z")
	isWrong(t, []string{`module M; use L; open rule @ac = ;`, `module L; use K (b as c); open rule c(w) = ;`, openK}, "M ErrClash a")
	// Through one that may not be: a closed rule extends nothing.
	isWrong(t, []string{`module M; @ause L (b); open rule @bb = ;`, `module L; @cuse K (b); rule b(w) = ;`, openK}, "M ErrClosed a", "M ErrClash b", "L ErrThere c")
	// Through four modules.
	isWrong(t, []string{
		`module M; use A (p as o); open rule @ao(x, y) = ;`,
		`module A; use B (q as p); open rule p(y) = ;`,
		`module B; use C (r as q); open rule q(z) = ;`,
		`module C; use K (b as r); open rule r(w) = ;`, openK}, "M ErrClash a")
}

// The first of several own rules of one name is meant, wherever it is used by its name.
func TestSeveralOwnRules(t *testing.T) {
	const twice = `module L; open rule r(x) = ; open rule @yr = ; rule s = ; open rule @zs = ;`
	isWrong(t, []string{`module M; use L (r); open rule r(w) = ;`, twice}, "L ErrThere y", "L ErrThere z")
	isWrong(t, []string{`module M; use L (r); open rule @ar = ;`, twice}, "M ErrClash a", "L ErrThere y", "L ErrThere z")
	isWrong(t, []string{`module M; @ause L (s);`, twice}, "M ErrClosed a", "L ErrThere y", "L ErrThere z")
	isWrong(t, []string{`module M; use L (s as t); rule r = t;`, `module L; open rule s = ; rule @zs = ;`}, "L ErrThere z")
	// Without names all that are open come, each under its name.
	isWrong(t, []string{`module M; @ause L; open rule r(w) = ; open rule s = ;`, twice}, "M ErrThere a", "L ErrThere y", "L ErrThere z")
	isWrong(t, []string{`module M; use L; open rule @bs(x) = ;`, `module L; rule s(x) = ; open rule @zs = ;`}, "M ErrClash b", "L ErrThere z")
}

func TestKindsTwice(t *testing.T) {
	isWrong(t, []string{`module M; token A = "a"; token A = "b"; mode in; token A = "c";`})
	isWrong(t, []string{`module M; use L; token A = "a";`, `module L; @atoken A = "b"; token B = "b"; @btoken A = "c";`}, "L ErrClash a", "L ErrClash b")
	isWrong(t, []string{`module M; use L; token A = "a"; token C = "c";`, `module L; use K; token B = "b"; @atoken C = "c";`, `module K; @btoken B = "b"; @ctoken A = "a"; token D = "d"; token D = "e";`},
		"L ErrClash a", "K ErrClash b", "K ErrClash c")
	// Skips have no name.
	isWrong(t, []string{`module M; use L; skip = "a";`, `module L; skip = "a"; skip = "b";`})
	// One that is not used has no part; modes and pushes neither.
	isWrong(t, []string{`module M; token A = "a" push in; mode in; token B = "b" pop;`, `module L; token A = "a";`})
	isWrong(t, []string{`module M; use L; token A = "a" push in; mode in; token B = "b" pop;`, `module L; mode in; token C = "c"; token in = "d" push in;`})
	// `error` and `end` may be kinds here.
	isWrong(t, []string{`module M; use L; token error = "e"; token end = "f";`, `module L; @atoken error = "e";`}, "L ErrClash a")
}

func TestTypesTwice(t *testing.T) {
	// In one module: types, constructors, both; a line's own constructors do not count.
	isWrong(t, []string{`module M; type T = C; @atype T = D; type U = E; @btype V = F | D; @ctype W = C | E;`}, "M ErrClash a", "M ErrClash b", "M ErrClash c")
	isWrong(t, []string{`module M; type T = C | C; type U = D(T) | D | D;`})
	isWrong(t, []string{`module M; type T = C; @atype T = C; @btype T = X; @ctype Y = X;`}, "M ErrClash a", "M ErrClash b", "M ErrClash c")
	// A type and a constructor may have one name.
	isWrong(t, []string{`module M; use L; type T = T; type C = U; type D = C;`, `module L; type U = D | X; type X = Y;`})
	// In two.
	isWrong(t, []string{`module M; use L; type T = C;`, `module L; @atype T = D; type U = E; @btype V = C; @ctype U = F;`}, "L ErrClash a", "L ErrClash b", "L ErrClash c")
	isWrong(t, []string{`module M; use L; use K; type T = A;`, `module L; type U = B;`, `module K; type V = C; @atype W = D | B; @btype T = E;`}, "K ErrClash a", "K ErrClash b")
	// Fields, kinds and rules are none.
	isWrong(t, []string{`module M; use L; type T = C(U, T); token U = "u"; rule V = ;`, `module L; type U = D(T, C); type V = W;`})
	isWrong(t, []string{`module M; type T = C;`, `module L; type T = C;`})
	// Kinds ahead of types, module by module.
	isWrong(t, []string{`module M; use L; token A = "a"; type T = C; @atype T = D;`, `module L; @ctype T = E; use K; @btoken A = "a";`, `module K; @etype V = C; @dtoken A = "a";`},
		"M ErrClash a", "L ErrClash b", "L ErrClash c", "K ErrClash d", "K ErrClash e")
}

func TestSymbolsThatMeanNothing(t *testing.T) {
	isWrong(t, []string{`module M; rule r = @aq;`}, "M ErrUnknown a")
	isWrong(t, []string{`module M; rule r(x) = r(@ay, x) @bz | x | @cq(@dq, r(@eq(x), x, @fy), @gz); rule s = @hx s;`},
		"M ErrUnknown a", "M ErrUnknown b", "M ErrUnknown c", "M ErrUnknown d", "M ErrUnknown e", "M ErrUnknown f", "M ErrUnknown g", "M ErrUnknown h")
	// What means something: a parameter, with arguments too; an own rule, a used name, error, a kind of any module in the order.
	isWrong(t, []string{`module M; use L (p as q); token A = "a"; rule r(x) = x(x) r(r) q(A, B) error(error) C;`, `module L; use K; token B = "b"; open rule p = A;`, `module K; token C = "c" ; rule z = A B C error;`})
	// What does not: a used name's name in its own module, another module's rule or parameter, a type, a constructor, a mode, a module, end, main.
	isWrong(t, []string{`module M; use L (p as q); rule r = @ap @bs @cy @dT @eC @fin @gL @hend @imain; start r; rule w(x) = ; rule v = @jx;`, `module L; open rule p(y) = @kr @lq; rule s = ; type T = C; mode in; skip = "a";`},
		"M ErrUnknown a", "M ErrUnknown b", "M ErrUnknown c", "M ErrUnknown d", "M ErrUnknown e", "M ErrUnknown f", "M ErrUnknown g", "M ErrUnknown h", "M ErrUnknown i", "M ErrUnknown j", "L ErrUnknown k", "L ErrUnknown l")
	// A kind of a module that is not used is none.
	isWrong(t, []string{`module M; rule r = @aA;`, `module L; token A = "a";`}, "M ErrUnknown a")
	// In extensions: their own module's names, and their own parameters.
	isWrong(t, []string{`module M; use K; rule z = ; open rule b(y) = y @ax z @bc;`, openK}, "M ErrUnknown a", "M ErrUnknown b")
	// In rules that are there twice.
	isWrong(t, []string{`module M; rule r(x) = @ay; rule @br(y) = @cx y;`}, "M ErrThere b", "M ErrUnknown a", "M ErrUnknown c")
	// Starts, levels, types and actions are not looked at.
	isWrong(t, []string{`module M; start q; left p; rule r: T = r prec z => N($1); type U = C(V);`})
}

// All kinds in one, in their order, with each module's.
func TestManyThingsWrong(t *testing.T) {
	isWrong(t, []string{
		`module M; rule r = @lq; @ause L (p, z, s, p); token A = "a"; type T = C; @itype T = D; rule @br = @mq; rule @cs(A) = ; open rule @dp(x) = @nv;`,
		`module L; @jtoken A = "b"; open rule p = @oy; rule s = ; @ktype U = C; @euse K (zz, c, a, b as a); open rule @fa(x) = ; rule @gw(w) = @pv; open rule @hs = ;`,
		openK},
		"M ErrNone a", "M ErrClosed a", "M ErrThere a", "M ErrThere b", "M ErrThere c", "M ErrClash d",
		"L ErrNone e", "L ErrClosed e", "L ErrThere e", "L ErrClash f", "L ErrThere g", "L ErrThere h",
		"M ErrClash i", "L ErrClash j", "L ErrClash k",
		"M ErrUnknown l", "M ErrUnknown m", "M ErrUnknown n", "L ErrUnknown o", "L ErrUnknown p")
}

// filled is a module with so many of one thing, each with a name that begins with a text.
func filled(name, ahead string, group, many int) api.Spec {
	s := api.Spec{Name: name}
	for i := range many {
		word := ahead + strconv.Itoa(i)
		switch group {
		case 0:
			s.Lex = append(s.Lex, api.LexLine{Mode: "main", Name: word, Re: api.Regex{Kind: api.ReEmpty}})
		case 1:
			s.Precs = append(s.Precs, api.PrecLine{Assoc: api.AssocLeft, Names: []string{word}})
		case 2:
			s.Datas = append(s.Datas, api.DataLine{Data: api.Data{Name: word, Ctors: []api.Ctor{{Name: word}}}})
		case 3:
			s.Rules = append(s.Rules, api.RuleLine{Name: word, Alts: []api.Alt{{}}})
		case 4:
			if i == 0 {
				s.Rules = []api.RuleLine{{Name: "r", Open: true}}
			}
			s.Rules[0].Alts = append(s.Rules[0].Alts, api.Alt{At: i})
		}
	}
	return s
}

// 7: lists that have just as many as may be, and one more, in two and in three modules.
func TestTooMany(t *testing.T) {
	for group := range 5 {
		for _, c := range []struct{ m, l, k int }{{256, 0, 0}, {255, 1, 0}, {256, 1, 0}, {1, 256, 0}, {128, 128, 0}, {128, 129, 0}, {100, 100, 56}, {100, 100, 57}, {256, 256, 256}, {1, 1, 255}, {1, 1, 254}} {
			m, l, k := filled("M", "a", group, c.m), filled("L", "b", group, c.l), filled("K", "c", group, c.k)
			m.Uses, l.Uses = []api.Use{{Module: "L", At: 5}}, []api.Use{{Module: "K", At: 6}}
			if group == 4 && c.k == 0 { // the extended rule must be there
				l.Uses = nil
			}
			if group == 4 && c.l == 0 {
				m.Uses = nil
			}
			var want []api.Diag
			if c.m+c.l+c.k > 256 {
				want = []api.Diag{{Module: "M", Why: api.ErrItems}}
			}
			if got := compose.Check("M", l, m, k); !slices.Equal(got, want) {
				t.Error(group, c, got)
			}
			s, got := compose.Compose("M", l, m, k)
			if !slices.Equal(got, want) || (want == nil) != (s.Name == "M") {
				t.Error(group, c, got)
			}
			if _, got := compose.Order("M", l, m, k); got != nil {
				t.Error(got)
			}
			if group != 3 || want != nil {
				likeWords(t, "M", l, m, k)
			}
		}
	}
}

// What is told of lists that are too long is told behind all else.
func TestTooManyBehindAllElse(t *testing.T) {
	m, l := filled("M", "a", 3, 200), filled("L", "a", 3, 100)
	m.Uses = []api.Use{{Module: "L", Names: []api.Rename{{Name: "z", As: "z"}}, At: 9}}
	l.Rules[7].Alts[0] = api.Alt{Syms: []api.Ref{{Name: "q", At: 8}}}
	want := []api.Diag{{Module: "M", Why: api.ErrNone, At: 9}, {Module: "L", Why: api.ErrUnknown, At: 8}, {Module: "M", Why: api.ErrItems}}
	if got := compose.Check("M", l, m); !slices.Equal(got, want) {
		t.Error(got)
	}
	if n, e := compose.Name("M", "L", "a0", l, m); n != "" || e != api.ErrArg {
		t.Error(n, e)
	}
	// Extensions are no rules of their own, even if they clash.
	for _, many := range []int{128, 129} {
		m, l := filled("M", "a", 3, 128), filled("L", "b", 3, many)
		l.Rules[0].Open = true
		m.Uses = []api.Use{{Module: "L", Names: []api.Rename{{Name: "b0", As: "x"}}, At: 9}}
		m.Rules = append(m.Rules, api.RuleLine{Name: "x", Open: true, Params: []string{"p"}, Alts: []api.Alt{{}}, At: 4})
		want := []api.Diag{{Module: "M", Why: api.ErrClash, At: 4}}
		if many == 129 {
			want = append(want, api.Diag{Module: "M", Why: api.ErrItems})
		}
		if got := compose.Check("M", l, m); !slices.Equal(got, want) {
			t.Error(got)
		}
	}
	// Kinds that are there twice count twice.
	m, l = filled("M", "a", 0, 200), filled("L", "a", 0, 57)
	m.Uses = []api.Use{{Module: "L"}}
	if got := compose.Check("M", l, m); len(got) != 58 || got[56].Why != api.ErrClash || got[57] != (api.Diag{Module: "M", Why: api.ErrItems}) {
		t.Error(got)
	}
	// A module that is not used counts for nothing.
	m.Uses = nil
	if got := compose.Check("M", l, m); len(got) > 0 {
		t.Error(got)
	}
}

// Lists that do not grow may be as long as any: Starts, Uses, Names, words of a level, constructors.
func TestFullLists(t *testing.T) {
	m, l := api.Spec{Name: "M"}, api.Spec{Name: "L", Starts: slices.Repeat([]string{"s"}, 256)}
	for i := range 256 {
		word := "n" + strconv.Itoa(i)
		m.Uses = append(m.Uses, api.Use{Module: "L"})
		m.Starts = append(m.Starts, word)
		l.Rules = append(l.Rules, api.RuleLine{Name: word, Alts: []api.Alt{{}}})
	}
	l.Precs = []api.PrecLine{{Assoc: api.AssocNot, Names: m.Starts}}
	l.Datas = []api.DataLine{{Data: api.Data{Name: "T"}}}
	for _, word := range m.Starts {
		l.Datas[0].Data.Ctors = append(l.Datas[0].Data.Ctors, api.Ctor{Name: word, Fields: m.Starts[:16]})
	}
	s, d := compose.Compose("M", m, l)
	if len(d) > 0 || len(s.Starts) != 256 || len(s.Rules) != 256 || len(s.Precs[0].Names) != 256 || len(s.Datas[0].Data.Ctors) != 256 {
		t.Error(d)
	}
}
