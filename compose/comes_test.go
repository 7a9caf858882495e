package compose_test

import (
	"slices"
	"strconv"
	"strings"
	"testing"

	"quoin/api"
	"quoin/compose"
	"quoin/spec"
)

// D1: what comes: the composed module, and Name.

func TestOneModule(t *testing.T) {
	for _, s := range []string{
		`module M;`,
		`module M; token A = "a"+ push in; skip = " "; mode in; token B = [b] pop; left A B; none A; type T = C(T, text) | D; rule r(x, y): T = x y(r(x, A), x) prec B => C($1, D) | ; inline rule s = error => "q"; start r s; start q;`,
		`module M; rule r = s; rule s = r;`,
	} {
		isComposed(t, []string{s}, s)
		isOrder(t, []string{s}, "M")
	}
	isComposed(t, []string{`module M; use L;`, `module L;`}, `module M;`)
}

// Lex, Precs and Datas of all modules stand in the order; Starts are the main one's.
func TestGroups(t *testing.T) {
	isComposed(t, []string{
		`module L; mode in; token B = "b"; skip = "x" push main; right B; type U = D(T); rule l = ; start l;`,
		`module K; token C = "c"; none C A; type V = E | F; rule k = ; start k;`,
		`module M; use L; use K; mode top; token A = "a" pop push in; skip = "y"; left A; left A B; type T = C(U, V); type W = G; rule m = A; start m;`},
		`module M; mode top; token A = "a" pop push in; skip = "y"; mode in; token B = "b"; skip = "x" push main; mode main; token C = "c";
			left A; left A B; right B; none C A; type T = C(U, V); type W = G; type U = D(T); type V = E | F; rule m = A; rule l = ; rule k = ; start m;`)
}

// All places stand as they were.
func TestPlaces(t *testing.T) {
	l, at := parsed(t,
		`module M; use L; @atoken A = "a"; @bleft A; @ctype T = C; rule @dr = @e@fm(@gA, @hr) A | @i;`,
		`module L; open rule @jm(x, y) = @k@lx(@my) | @n=> _ ; @otoken B = "b"; @pright B; @qtype U = D;`)
	s, d := compose.Compose("M", l...)
	if len(d) > 0 {
		t.Fatal(d)
	}
	var got []int
	for i := range 2 {
		got = append(got, s.Lex[i].At, s.Precs[i].At, s.Datas[i].At, s.Rules[i].At)
		for _, a := range s.Rules[i].Alts {
			got = append(got, a.At)
		}
		sym := s.Rules[i].Alts[0].Syms[0]
		got = append(got, sym.At, sym.Args[0].At)
	}
	var want []int
	for _, mark := range strings.Split("a b c d e i f g o p q j k n l m", " ") {
		want = append(want, at[mark])
	}
	if !slices.Equal(got, want) {
		t.Error(got, want)
	}
}

func TestUsedNames(t *testing.T) {
	const l = `module L; open rule p(x) = x r; open rule q = ; rule r = q;`
	const rest = `rule p(x) = x r; rule q = ; rule r = q;`
	isComposed(t, []string{`module M; use L; rule m = p(q);`, l}, `module M; rule m = p(q);`+rest)
	isComposed(t, []string{`module M; use L (p, q); rule m = p(q);`, l}, `module M; rule m = p(q);`+rest)
	isComposed(t, []string{`module M; use L (p as q, q as p); rule m = q(p) p q(q(p));`, l}, `module M; rule m = p(q) q p(p(q));`+rest)
	isComposed(t, []string{`module M; use L (p as a, p as b); rule m = a(b(m));`, l}, `module M; rule m = p(p(m));`+rest)
	isComposed(t, []string{`module M; use L (p as a); use L (p); use L (q as b); rule m = a(p(b));`, l}, `module M; rule m = p(p(q));`+rest)
	// Used by several, each in its own words; what is used is not handed on.
	isComposed(t, []string{`module M; use A (a as x); use B; rule m = x b;`, `module A; use L (q as p); open rule a = p;`, `module B; use L (p as q); open rule b = q(b);`, l},
		`module M; rule m = a b; rule a = q; `+rest+`rule b = p(b);`)
}

// A word means, of all that have it, a parameter, an own rule, a used name, error, and then a kind.
func TestWhatWordsMean(t *testing.T) {
	isComposed(t, []string{`module M; token A = "a"; rule A = A; rule m = A;`}, `module M; token A = "a"; rule A_2 = A_2; rule m = A_2;`)
	isComposed(t, []string{`module M; use L (l as A); token A = "a"; rule m = A;`, `module L; open rule l = A;`}, `module M; token A = "a"; rule m = l; rule l = A;`)
	isComposed(t, []string{`module M; rule error = error m; rule m = error(error);`}, `module M; rule error_2 = error_2 m; rule m = error_2(error_2);`)
	isComposed(t, []string{`module M; use L (l as error); rule m = error;`, `module L; open rule l = error;`}, `module M; rule m = l; rule l = error;`)
	isComposed(t, []string{`module M; token error = "e"; rule error = error; rule m = error;`}, `module M; token error = "e"; rule error_2 = error_2; rule m = error_2;`)
	isComposed(t, []string{`module M; rule r(error) = error; rule m = error r(error);`}, `module M; rule r(error) = error; rule m = error r(error);`)
	// A rule's parameter is no other rule's.
	isComposed(t, []string{`module M; use L; token A = "a"; rule m(x) = x A;`, `module L; rule x = A x; rule y(x_) = x x_;`},
		`module M; token A = "a"; rule m(x_2) = x_2 A; rule x = A x; rule y(x_) = x x_;`)
	// A private rule that is called as another module's kind is meant in its own module alone.
	isComposed(t, []string{`module M; use L; token A = "a"; rule m = A l;`, `module L; rule A = l; open rule l = A;`},
		`module M; token A = "a"; rule m = A l; rule A_2 = l; rule l = A_2;`)
}

func TestRulesAndTheirExtensions(t *testing.T) {
	// Rules stand in the order, the extended one where it is; extensions behind, in the order of their modules, though these come ahead.
	isComposed(t, []string{
		`module M; use A; use B (p as q); rule m = ; open rule q = m; open rule a = q;`,
		`module A; use B; open rule a = p; open rule p = a a;`,
		`module B; open rule p = b | ; rule b = ;`},
		`module M; rule m = ; rule a = p | p; rule p = b | | m | a a; rule b = ;`)
	// Two of one module, by two names.
	isComposed(t, []string{`module M; use L (p as a, p as b); open rule b = a | b; rule m = ; open rule a = m;`, `module L; open rule p = p p;`},
		`module M; rule m = ; rule p = p p | p | p | m;`)
	// Of an extension by its name, its module's name, and what it extends.
	isComposed(t, []string{`module M; use L (p as a); use K (q as b); open rule a = A | a b; open rule b = b a; token A = "a";`, `module L; use K (q as p); open rule p = p;`, `module K; open rule q = ;`},
		`module M; token A = "a"; rule q = | A | q q | q q | q;`)
	// Inline and Type stay.
	isComposed(t, []string{`module M; use L; open inline rule p(z): T = z => $1;`, `module L; open inline rule p(y): T = ;`}, `module M; inline rule p(y): T = | y;`)
	// An extension's Prec and action are its own.
	isComposed(t, []string{`module M; use L; open rule p(z) = z z prec A => N($2, "t", _);`, `module L; open rule p(y) = y prec B => O($1);`},
		`module M; rule p(y) = y prec B => O($1) | y y prec A => N($2, "t", _);`)
	// An open rule that is no used name is one of its own, though a module has one of that name.
	isComposed(t, []string{`module M; use L (q); open rule p = q;`, `module L; open rule p = q; open rule q = p;`}, `module M; rule p = q; rule p_2 = q; rule q = p_2;`)
}

func TestParametersOfExtensions(t *testing.T) {
	const l = `module L; open rule p(x, y) = x y;`
	isComposed(t, []string{`module M; use L; open rule p(x, y) = y x;`, l}, `module M; rule p(x, y) = x y | y x;`)
	isComposed(t, []string{`module M; use L; open rule p(y, x) = y x;`, l}, `module M; rule p(x, y) = x y | x y;`)
	isComposed(t, []string{`module M; use L; open rule p(a, b) = b(a, p(b, a)) error;`, l}, `module M; rule p(x, y) = x y | y(x, p(y, x)) error;`)
	isComposed(t, []string{`module M; use L (p as q); open rule q(z, x) = q(x, z);`, l}, `module M; rule p(x, y) = x y | p(y, x);`)
	// Through several modules, each with parameters of its own.
	isComposed(t, []string{
		`module M; use A (q as r); open rule r(b, a) = a(b);`,
		`module A; use B (p as q); open rule q(y, x) = y(x);`,
		`module B; use L; open rule p(c, x) = c(x);`, l},
		`module M; rule p(x, y) = x y | y(x) | x(y) | x(y);`)
	// What a word means in an extension is not what a parameter of the extended rule is called.
	isComposed(t, []string{`module M; use L; rule x = ; open rule p(a, b) = a x b y; token y_ = "y"; rule y = x;`, l},
		`module M; token y_ = "y"; rule x = ; rule y = x; rule p(x_2, y_2) = x_2 y_2 | x_2 x y_2 y;`)
	isComposed(t, []string{`module M; use L; use K (k as x); open rule p(a, b) = a x;`, l, `module K; open rule k = ;`},
		`module M; rule p(x, y) = x y | x k; rule k = ;`)
	// Four of them.
	isComposed(t, []string{`module M; use L; open rule p(d, c, b, a) = a b c d;`, `module L; open rule p(a, b, c, d) = a b c d;`},
		`module M; rule p(a, b, c, d) = a b c d | d c b a;`)
}

func TestRulesNames(t *testing.T) {
	// The first one keeps its name, whichever is open.
	isComposed(t, []string{`module M; use L (s as t); rule s = t;`, `module L; open rule s = s;`}, `module M; rule s = s_2; rule s_2 = s_2;`)
	isComposed(t, []string{`module M; use A; use B; use C; rule s = s;`, `module A; rule s = s;`, `module B; rule s = s s; rule a = s;`, `module C; rule s = ;`},
		`module M; rule s = s; rule s_2 = s_2; rule s_3 = s_3 s_3; rule a = s_3; rule s_4 = ;`)
	// The least number that is free: no rule's name so far, no own name of any rule, no kind, no parameter of any rule.
	isComposed(t, []string{`module M; use A; use B; rule s = s;`, `module A; rule s = ;`, `module B; rule s_2 = ;`}, `module M; rule s = s; rule s_3 = ; rule s_2 = ;`)
	isComposed(t, []string{`module M; use A; use B; rule s = s; token s_2 = "a";`, `module A; rule s = ;`, `module B; token s_4 = "b"; rule s_3 = ;`}, `module M; token s_2 = "a"; token s_4 = "b"; rule s = s; rule s_5 = ; rule s_3 = ;`)
	isComposed(t, []string{`module M; use A; rule s = s; rule m(s_2) = s_2;`, `module A; rule s = ; rule a(x, s_3) = ;`}, `module M; rule s = s; rule m(s_2) = s_2; rule s_4 = ; rule a(x, s_3) = ;`)
	// The own names and parameters of extensions count, too, though they come no more; what a used name is called here does not.
	isComposed(t, []string{`module M; use A (a as s_2); rule s = ; open rule s_2 = ;`, `module A; open rule a = ; rule s = ;`}, `module M; rule s = ; rule a = | ; rule s_3 = ;`)
	isComposed(t, []string{`module M; use A (a as s_2); rule s = s_2;`, `module A; open rule a = ; rule s = ;`}, `module M; rule s = a; rule a = ; rule s_2 = ;`)
	isComposed(t, []string{`module M; use A (a as b); rule s = ; open rule b(s_2) = s_2;`, `module A; open rule a(x) = ; rule s = ;`}, `module M; rule s = ; rule a(x) = | x; rule s_3 = ;`)
	// Numbers begin with 2, and a gap is filled.
	isComposed(t, []string{`module M; use A; use B; rule s = ; rule s_1 = ; rule s_3 = ; rule s_0 = ;`, `module A; rule s = ;`, `module B; rule s = ; rule s_3 = ;`},
		`module M; rule s = ; rule s_1 = ; rule s_3 = ; rule s_0 = ; rule s_2 = ; rule s_4 = ; rule s_3_2 = ;`)
	// A name that was made is there for those behind it.
	isComposed(t, []string{`module M; use A; use B; rule s = ;`, `module A; rule s = ;`, `module B; use C; rule s = ;`, `module C; rule s_2_ = ; rule s = ;`}, `module M; rule s = ; rule s_2 = ; rule s_3 = ; rule s_2_ = ; rule s_4 = ;`)
	// Ten and more.
	var l []string
	want := `module M; rule r = ;`
	uses := ""
	for i := 2; i < 13; i++ {
		l = append(l, `module N`+strconv.Itoa(i)+`; rule r = r;`)
		uses += `use N` + strconv.Itoa(i) + `;`
		want += strings.ReplaceAll(`rule N = N;`, "N", "r_"+strconv.Itoa(i))
	}
	isComposed(t, append(l, `module M;`+uses+`rule r = ;`), want)
}

func TestRulesThatAreKindsOrError(t *testing.T) {
	isComposed(t, []string{`module M; use L; rule A = B; rule B = A;`, `module L; token A = "a"; rule C = A; token C = "c";`},
		`module M; token A = "a"; token C = "c"; rule A_2 = B; rule B = A_2; rule C_2 = A;`)
	isComposed(t, []string{`module M; use L; rule error = error;`, `module L; rule error = error; rule l = error;`}, `module M; rule error_2 = error_2; rule error_3 = error_3; rule l = error_3;`)
	isComposed(t, []string{`module M; use L; rule m = error;`, `module L; rule error = ; rule error_2 = ;`}, `module M; rule m = error; rule error_3 = ; rule error_2 = ;`)
	// end, text and main are names like others.
	isComposed(t, []string{`module M; rule end = text; rule text = main; rule main = end;`}, `module M; rule end = text; rule text = main; rule main = end;`)
	// Types and constructors take no rule's name.
	isComposed(t, []string{`module M; type r = s; rule r = ; rule s = ;`}, `module M; type r = s; rule r = ; rule s = ;`)
	// A kind of a module that is not used does not, either.
	isComposed(t, []string{`module M; rule A = ;`, `module L; token A = "a"; rule A = ;`}, `module M; rule A = ;`)
}

// A name's first 26 bytes stand ahead of the number.
func TestLongNames(t *testing.T) {
	for _, n := range []int{1, 2, 25, 26, 27, 28, 31, 32} {
		word := strings.Repeat("abcdefgh", 4)[:n]
		kept := word[:min(n, 26)]
		isComposed(t, []string{`module M; use L; use K; rule ` + word + ` = ;`, `module L; rule ` + word + ` = ` + word + `;`, `module K; rule ` + word + ` = ;`},
			`module M; rule `+word+` = ; rule `+kept+`_2 = `+kept+`_2; rule `+kept+`_3 = ;`)
		isComposed(t, []string{`module M; token ` + word + ` = "a"; rule ` + word + ` = ;`}, `module M; token `+word+` = "a"; rule `+kept+`_2 = ;`)
		isComposed(t, []string{`module M; use L; rule m(` + word + `) = ` + word + `;`, `module L; rule ` + word + ` = ;`}, `module M; rule m(`+kept+`_2) = `+kept+`_2; rule `+word+` = ;`)
	}
	// Names that begin with the same 26 bytes share the numbers.
	a := strings.Repeat("a", 26)
	isComposed(t, []string{`module M; use L; rule ` + a + `x = ; rule ` + a + `y = ; rule ` + a + ` = ;`, `module L; rule ` + a + `y = ; rule ` + a + ` = ; rule ` + a + `x = ;`},
		`module M; rule `+a+`x = ; rule `+a+`y = ; rule `+a+` = ; rule `+a+`_2 = ; rule `+a+`_3 = ; rule `+a+`_4 = ;`)
	isComposed(t, []string{`module M; use L; rule ` + a + `_2 = ; rule ` + a + `_3zz = ;`, `module L; rule ` + a + `_3zz = ; rule ` + a + `_2 = ;`},
		`module M; rule `+a+`_2 = ; rule `+a+`_3zz = ; rule `+a+`_3 = ; rule `+a+`_4 = ;`)
	isComposed(t, []string{`module M; use L; rule m(` + a + `x, ` + a + `y, z) = ` + a + `y ` + a + `x;`, `module L; rule ` + a + `x = ; rule ` + a + `y = ;`},
		`module M; rule m(`+a+`_2, `+a+`_3, z) = `+a+`_3 `+a+`_2; rule `+a+`x = ; rule `+a+`y = ;`)
}

func TestParametersThatAreRenamed(t *testing.T) {
	const l = `module L; rule x = ; rule y = x;`
	const rest = `rule x = ; rule y = x;`
	isComposed(t, []string{`module M; use L; rule m(x) = x m(x);`, l}, `module M; rule m(x_2) = x_2 m(x_2);`+rest)
	isComposed(t, []string{`module M; use L; rule m(x, y, z) = x(y, z) z y;`, l}, `module M; rule m(x_2, y_2, z) = x_2(y_2, z) z y_2;`+rest)
	isComposed(t, []string{`module M; use L; rule m(x) = x; rule n(y, x) = y x;`, l}, `module M; rule m(x_2) = x_2; rule n(y_2, x_2) = y_2 x_2;`+rest) // each rule's own
	// The least that is free, parameters of all rules and own names of extensions too.
	isComposed(t, []string{`module M; use L; rule m(x, x_2) = x x_2;`, l}, `module M; rule m(x_3, x_2) = x_3 x_2;`+rest)
	isComposed(t, []string{`module M; use L; rule m(x_2, x) = x x_2; rule n(x_3) = ; rule x_5 = ; token x_4 = "a";`, l}, `module M; token x_4 = "a"; rule m(x_2, x_6) = x_6 x_2; rule n(x_3) = ; rule x_5 = ;`+rest)
	isComposed(t, []string{`module M; use L; use K (k as x_2); rule m(x) = x; open rule x_2(x_3) = x_3;`, l, `module K; open rule k(z) = ;`},
		`module M; rule m(x_4) = x_4;`+rest+`rule k(z) = | z;`)
	// Behind all rules' names: these come first.
	isComposed(t, []string{`module M; use L; use K; rule m(x) = x;`, l, `module K; rule x = x;`}, `module M; rule m(x_3) = x_3;`+rest+`rule x_2 = x_2;`)
	// By what rules are called in what comes: a name that was given up is no rule's.
	isComposed(t, []string{`module M; use L; rule m(error) = error;`, `module L; rule error = ;`}, `module M; rule m(error) = error; rule error_2 = ;`)
	// One that another module has as a rule, which extends there, is no rule that comes.
	isComposed(t, []string{`module M; use A (x as w); rule m(x) = x;`, `module A; use B (b as x); open rule x = ;`, `module B; open rule b = x; token x_ = "x"; rule x = ;`},
		`module M; token x_ = "x"; rule m(x_2) = x_2; rule b = x | ; rule x = ;`)
	isComposed(t, []string{`module M; use A (x as w); rule m(x) = x;`, `module A; use B (b as x); open rule x = ;`, `module B; open rule b = ;`},
		`module M; rule m(x) = x; rule b = | ;`)
	// In extensions likewise.
	isComposed(t, []string{`module M; use L; use K; open rule k(z) = z x; rule x = k(x);`, l, `module K; open rule k(x) = x;`},
		`module M; rule x = k(x); rule x_2 = ; rule y = x_2; rule k(x_3) = x_3 | x_3 x;`)
	// One that a rule has twice.
	isComposed(t, []string{`module M; use L; rule m(x, x, z) = x;`, l}, `module M; rule m(x_2, x_3, z) = x_2;`+rest)
	isComposed(t, []string{`module M; rule m(x, x, z) = x;`}, `module M; rule m(x, x, z) = x;`)
}

func TestStarts(t *testing.T) {
	isComposed(t, []string{`module M; use L (p as q); rule r = ; start q r r q; start r;`, `module L; open rule p = ; start p p;`}, `module M; rule r = ; rule p = ; start p r r p r;`)
	// An extension; one that has another name now; a kind; nothing at all; a parameter.
	isComposed(t, []string{`module M; use L (p as q); open rule q(x) = ; start q p x A zz error; token A = "a";`, `module L; open rule p(y) = ; rule zz = ;`},
		`module M; token A = "a"; rule p(y) = | ; rule zz = ; start p p x A zz error;`)
	isComposed(t, []string{`module M; token A = "a"; rule A = ; rule error = ; start A error s; use L (s); `, `module L; open rule s = t; rule t = ; start t;`},
		`module M; token A = "a"; rule A_2 = ; rule error_2 = ; rule s = t; rule t = ; start A_2 error_2 s;`)
	isComposed(t, []string{`module M; use A; use B (s as b); start b s;`, `module A; open rule s = ;`, `module B; open rule s = ;`}, `module M; rule s = ; rule s_2 = ; start s_2 s;`)
}

func TestName(t *testing.T) {
	l := []string{`module M; use L (p as q); rule s = q; open rule q = ; token A = "a"; rule A = ;`, `module L; use K; open rule p = k; rule s = ; open rule k = ;`, `module K; open rule k = ; rule q(x) = ;`, `module N; rule n = ;`}
	for _, c := range [][3]string{
		{"M", "s", "s"}, {"M", "A", "A_2"}, {"L", "s", "s_2"}, {"L", "p", "p"}, {"K", "k", "k"}, {"K", "q", "q"},
		{"M", "q", "p"}, {"L", "k", "k"}, // of one that extends: of what it extends
		{"M", "p", "ErrNone"}, {"L", "q", "ErrNone"}, {"K", "x", "ErrNone"}, {"L", "A", "ErrNone"}, {"M", "s_2", "ErrNone"}, {"L", "s_2", "ErrNone"},
		{"M", "A_2", "ErrNone"}, {"M", "", "ErrNone"}, {"M", "error", "ErrNone"}, {"M", "rule", "ErrNone"},
		{"N", "n", "ErrNone"}, {"X", "s", "ErrNone"}, {"", "s", "ErrNone"}, {"", "", "ErrNone"}, {"m", "s", "ErrNone"},
	} {
		isName(t, l, c[0], c[1], c[2])
	}
	// A used name is no own rule.
	isName(t, []string{`module M; use L; rule m = p;`, `module L; open rule p = ;`}, "M", "p", "ErrNone")
	// ErrArg, if anything is wrong, ahead of ErrNone.
	for _, wrong := range [][]string{
		{`module M; rule r = q;`}, {`module N;`}, {`module M; use X;`}, {`module M; use M;`}, {`module M;`, `module L;`, `module L;`},
		{`module M; use L; token A = "a";`, `module L; token A = "a";`}, {`module M; rule r = ; rule r = ;`},
	} {
		for _, module := range []string{"M", "L", "X", ""} {
			for _, rule := range []string{"r", "zz", ""} {
				isName(t, wrong, module, rule, "ErrArg")
			}
		}
	}
}

// crowd are modules in which parameters of extensions have all numbers from 2 on up to one, behind a beginning of 26 bytes; M and L have a rule of that beginning each.
func crowd(upTo int) []api.Spec {
	const roots, params = 100, 4
	word := strings.Repeat("w", 32)
	m := api.Spec{Name: "M", Rules: []api.RuleLine{{Name: word, Alts: []api.Alt{{}}}}}
	base := api.Spec{Name: "L", Rules: []api.RuleLine{{Name: word, Alts: []api.Alt{{}}}}}
	for i := range roots {
		base.Rules = append(base.Rules, api.RuleLine{Name: "r" + strconv.Itoa(i), Open: true, Params: []string{"a", "b", "c", "d"}, Alts: []api.Alt{{}}})
	}
	l := []api.Spec{base}
	for number := 2; number <= upTo; {
		s := api.Spec{Name: "E" + strconv.Itoa(len(l)), Uses: []api.Use{{Module: "L"}}}
		for i := range roots {
			r := api.RuleLine{Name: "r" + strconv.Itoa(i), Open: true, Alts: []api.Alt{{}}}
			for range params {
				r.Params = append(r.Params, word[:26]+"_"+strconv.Itoa(min(number, upTo)))
				number++
			}
			s.Rules = append(s.Rules, r)
		}
		m.Uses = append(m.Uses, api.Use{Module: s.Name, Names: []api.Rename{{Name: "r0", As: s.Name}}})
		l = append(l, s)
	}
	return append(l, m)
}

// A name of more bytes than layer 8 lets be is more of something than may be.
func TestNumbersThatAreTooLong(t *testing.T) {
	for _, upTo := range []int{1, 2, 9998, 99998} {
		l := crowd(upTo)
		s, d := compose.Compose("M", l...)
		word := strings.Repeat("w", 26) + "_" + strconv.Itoa(upTo+1)
		if upTo == 1 { // nothing leads to L
			word = strings.Repeat("w", 32)
		}
		if len(d) > 0 || !slices.ContainsFunc(s.Rules, func(r api.RuleLine) bool { return r.Name == word }) || !spec.Right(s) {
			t.Error(upTo, d)
		}
	}
	l := crowd(99999)
	if s, d := compose.Compose("M", l...); !slices.Equal(d, []api.Diag{{Module: "M", Why: api.ErrItems}}) || s.Name != "" {
		t.Error(d, s.Name)
	}
	l[0].Rules[0].Name = "v"
	if s, d := compose.Compose("M", l...); len(d) > 0 || len(s.Rules) != 102 {
		t.Error(d, len(s.Rules))
	}
}
