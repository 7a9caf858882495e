package expand_test

import (
	"slices"
	"strconv"
	"strings"
	"testing"

	"quoin/api"
)

// P11.2: instances, their order, heights and texts; kinds, levels and types; as many as may be, and one more.

func TestRulesWithoutParameters(t *testing.T) {
	isGrammar(t, "rule s = ;", "s = => _")
	isGrammar(t, "rule s = s s | A => $1 | error B s => N($3, \"t\", _) | B => _;",
		"s = s s => _", "s = A => $1", "s = error B s => N($3, \"t\", _)", "s = B => _")
	// Rules come in the order in which they are named, not in that of the text.
	isGrammar(t, "rule a = b; rule b = A; rule c = a d; rule d = s; rule s = c b | d;",
		"s = c b => _", "s = d => $1", "c = a d => _", "b = A => $1", "d = s => $1", "a = b => $1")
	isGrammar(t, "rule s = r; rule r = r s; rule q = q;", "s = r => $1", "r = r s => _")
	// Equal alternatives are productions of their own.
	isGrammar(t, "rule s = A | A | A => _;", "s = A => $1", "s = A => $1", "s = A => _")
}

func TestInstancesInOrder(t *testing.T) {
	isGrammar(t, "rule s = p(A, B) p(B, A) p(A, B) p(A, A); rule p(x, y) = y x;",
		"s = p(A, B) p(B, A) p(A, B) p(A, A) => _", "p(A, B) = B A => _", "p(B, A) = A B => _", "p(A, A) = A A => _")
	// Arguments alone are no rules of the grammar.
	isGrammar(t, "rule s = p(q, r); rule p(x, y) = x A; rule q = B; rule r = A;",
		"s = p(q, r) => $1", "p(q, r) = q A => _", "q = B => $1")
	isGrammar(t, "rule s = list(pair(A, B), P); rule list(x, y) = x | list(x, y) y x => L($1, $3); rule pair(x, y) = x y;",
		"s = list(pair(A, B), P) => $1",
		"list(pair(A, B), P) = pair(A, B) => $1",
		"list(pair(A, B), P) = list(pair(A, B), P) P pair(A, B) => L($1, $3) prec 1",
		"pair(A, B) = A B => _")
	// What a parameter stands for, within arguments, too, and in rules that hand it on.
	isGrammar(t, "rule s = a(A, q); rule a(x, y) = b(y, b(x, x)) x; rule b(y, x) = x y error; rule q = ;",
		"s = a(A, q) => $1", "a(A, q) = b(q, b(A, A)) A => _", "b(q, b(A, A)) = b(A, A) q error => _", "b(A, A) = A A error => _", "q = => _")
	// The same instance, however it is reached.
	isGrammar(t, "rule s = m(A) n(A) k; rule m(x) = t(x); rule n(y) = t(y); rule k = t(A); rule t(z) = z;",
		"s = m(A) n(A) k => _", "m(A) = t(A) => $1", "n(A) = t(A) => $1", "k = t(A) => $1", "t(A) = A => $1")
	isGrammar(t, "rule s = p(error) q(A, A, B, B); rule p(x) = x; rule q(a, b, c, d) = d c b a => N($1, $4);",
		"s = p(error) q(A, A, B, B) => _", "p(error) = error => $1", "q(A, A, B, B) = B B A A => N($1, $4)")
	// Two rules with as many parameters, one within the other, and a parameter that comes to nothing.
	isGrammar(t, "rule s = p(p(q(A))) q(p(B)); rule p(x) = x; rule q(x) = B;",
		"s = p(p(q(A))) q(p(B)) => _", "p(p(q(A))) = p(q(A)) => $1", "q(p(B)) = B => $1", "p(q(A)) = q(A) => $1", "q(A) = B => $1")
}

func TestPlainParts(t *testing.T) {
	s, _ := parsed(t, "use L; type T = C; none A P error end; rule s: T = p(A) error => C; open rule p(x): U = r A; rule r = A error; rule q: V = ;")
	g, types, diags := likeWords(t, s, "s")
	want := api.Plain{
		Kinds: []string{"end", "error", "A", "B", "P", "Q"},
		Precs: []api.Prec{{}, {}, {Level: 3, Assoc: api.AssocNot}, {}, {Level: 1, Assoc: api.AssocLeft}, {Level: 2, Assoc: api.AssocRight}},
		Rules: []string{"s", "p(A)", "r"},
		Prods: []api.Prod{
			{Left: 0, Right: []int{7, 1}, Act: api.Act{Kind: api.ActNode, Name: "C"}},
			{Left: 1, Right: []int{8, 2}, Level: 3},
			{Left: 2, Right: []int{2, 1}, Level: 3},
		},
	}
	if told(g) != told(want) || !slices.Equal(types, []string{"T", "U", ""}) || len(diags) > 0 {
		t.Error(g, types, diags)
	}
	// From another start it is another grammar.
	g, types, _ = likeWords(t, s, "q")
	if !slices.Equal(g.Rules, []string{"q"}) || !slices.Equal(types, []string{"V"}) || g.Start != 0 || len(g.Prods) != 1 || len(g.Precs) != 6 {
		t.Error(g, types)
	}
}

// A production's level: that of its Prec; of the last kind that has one; none.
func TestLevels(t *testing.T) {
	isGrammar(t, "none B P; left Q B; rule s = A | P | A P Q A | Q P A | Q B | B error | s r | P s prec X | s prec P | Q A prec B | prec Q; rule r = ;",
		"s = A => $1", "s = P => $1 prec 1", "s = A P Q A => _ prec 2", "s = Q P A => _ prec 1", "s = Q B => _ prec 3", "s = B error => _ prec 3", "s = s r => _",
		"s = P s => _ prec 2", "s = s => $1 prec 1", "s = Q A => _ prec 3", "s = => _ prec 2", "r = => _")
	// error and end have no level as kinds, though their names may have one.
	isGrammar(t, "left error end; rule s = error | P error | A prec error | prec end;",
		"s = error => $1", "s = P error => _ prec 1", "s = A => $1 prec 3", "s = => _ prec 3")
	// What a parameter stands for counts as what it is; a rule that has a level's name has none.
	isGrammar(t, "left s r x; rule s = r(P) r(A) r(r(Q)) s; rule r(x) = x A | x prec x;",
		"s = r(P) r(A) r(r(Q)) s => _",
		"r(P) = P A => _ prec 1", "r(P) = P => $1 prec 3", "r(A) = A A => _", "r(A) = A => $1 prec 3",
		"r(r(Q)) = r(Q) A => _", "r(r(Q)) = r(Q) => $1 prec 3", "r(Q) = Q A => _ prec 2", "r(Q) = Q => $1 prec 3")
	// An inlined alternative's Prec counts for nothing; its kinds do.
	isGrammar(t, "inline rule op = P prec X | A prec X | Q; rule s = s op s | op A prec P;",
		"s = s P s => _ prec 1", "s = s A s => _", "s = s Q s => _ prec 2", "s = P A => _ prec 1", "s = A A => _ prec 1", "s = Q A => _ prec 1")
}

// nested is a name within itself as its only argument, so many times.
func nested(many int, name, inner string) string {
	return strings.Repeat(name+"(", many) + inner + strings.Repeat(")", many)
}

func TestHeights(t *testing.T) {
	const rest = "; rule p(x) = A; inline rule i(x) = B; rule q = B; inline rule j = B;"
	for _, name := range []string{"p", "i"} {
		for _, c := range []struct {
			many  int
			inner string
			ok    bool
		}{{7, "A", true}, {8, "A", true}, {9, "A", false}, {6, "q", true}, {7, "q", true}, {8, "q", false}, {7, "j", true}, {8, "j", false}, {63, "A", false}} {
			text := "rule s = @aB " + nested(c.many, name, c.inner) + rest
			if c.ok {
				grows(t, text)
			} else {
				stops(t, text, "ErrEndless a")
			}
		}
	}
	// The greatest height of the arguments counts.
	const two = "; rule p(x) = A; rule q(x, y, z) = A;"
	grows(t, "rule s = q(A, "+nested(7, "p", "A")+", B)"+two)
	stops(t, "rule s = A | @aq(A, "+nested(8, "p", "A")+", B)"+two, "ErrEndless a")
	stops(t, "rule s = @aq(A, "+nested(3, "p", "A")+", "+nested(8, "p", "A")+") | A"+two, "ErrEndless a")
	stops(t, "rule s = A | B | @aq("+nested(8, "p", "A")+", A, p(A))"+two, "ErrEndless a")
	// Heights grow from instance to instance, and are told where they do.
	stops(t, "rule s = r(A); rule r(x) = A | @aB r(p(x)); rule p(x) = x;", "ErrEndless a")
	stops(t, "rule s = r(A); rule r(x) = @aA q(x); inline rule q(x) = r(p(x)); rule p(x) = x;", "ErrEndless a")
	stops(t, "rule s = r(A); rule r(x) = q(x); rule q(x) = @ap(r(p(x))); rule p(x) = x;", "ErrEndless a")
	stops(t, "rule s = A | @aB i(A); inline rule i(x) = i(p(x)) A; rule p(x) = x;", "ErrEndless a")
	// What is only an argument is not gone on from.
	grows(t, "rule s = r(A); rule r(x) = p("+nested(7, "p", "x")+") | q(A, r(p(x)), A)"+two)
	stops(t, "rule s = r(A); rule r(x) = @aq(A, r(p(x)), A); rule p(x) = A; rule q(x, y, z) = y;", "ErrEndless a")
	g := grows(t, "rule s = r(A); rule r(x) = "+nested(7, "p", "x")+"; rule p(x) = x;")
	if len(g.Rules) != 9 || g.Rules[2] != nested(7, "p", "A") || g.Rules[8] != "p(A)" {
		t.Error(g.Rules)
	}
	stops(t, "rule s = r(p(A)); rule r(x) = @a"+nested(8, "p", "x")+"; rule p(x) = x;", "ErrEndless a")
}

// An instance of a height above 8 stops, though the one that names it would never come to be looked at.
func TestFirstHeights(t *testing.T) {
	stops(t, "rule s = r | @a"+nested(9, "p", "A")+"; rule r = "+nested(10, "p", "A")+"; rule p(x) = A;", "ErrEndless a")
	stops(t, "rule s = r q; rule q = "+nested(9, "p", "A")+"; rule r = A | @a"+nested(9, "p", "A")+"; rule p(x) = A;", "ErrEndless a")
	// A rule that nothing leads to may have any heights.
	isGrammar(t, "rule s = A; rule q = "+nested(30, "p", "A")+"; rule p(x) = p(p(x));", "s = A => $1")
}

// manyInstances is a module's text whose start names so many instances of p, and its own, with no more productions than may be.
func manyInstances(many int, behind string) string {
	var b strings.Builder
	for i := range 64 {
		b.WriteString("token K" + strconv.Itoa(i) + " = \"k\"; ")
	}
	b.WriteString("rule p(x, y) = x; rule s = ")
	for i := range many {
		if i > 0 && i%32 == 0 {
			b.WriteString("| ")
		}
		if i == 2016 {
			b.WriteString("@z") // the alternative that has the 2048th
		}
		b.WriteString("p(K" + strconv.Itoa(i/64) + ", K" + strconv.Itoa(i%64) + ") ")
	}
	return b.String() + behind + ";"
}

func TestManyInstances(t *testing.T) {
	g := grows(t, manyInstances(2047, ""))
	if len(g.Rules) != 2048 || g.Rules[2047] != "p(K31, K62)" {
		t.Error(len(g.Rules))
	}
	// One that is there already may be named; one that is new may not.
	g = grows(t, manyInstances(2047, "| p(K3, K4) s A"))
	if len(g.Rules) != 2048 {
		t.Error(len(g.Rules))
	}
	stops(t, manyInstances(2047, "| @ap(A, A) s A"), "ErrProds a")
	stops(t, manyInstances(2047, "| A @bs | @ap(K3, K4) A q | error")+" rule q = A;", "ErrProds a")
	stops(t, manyInstances(2048, ""), "ErrProds z")
	// Those that are inlined, or only arguments, do not count.
	grows(t, manyInstances(2047, "| i(A) i(B) i(i(p(A, A)))")+" inline rule i(x) = K3;")
}

// As many bytes of an instance's text as may be, and one more.
func TestLongTexts(t *testing.T) {
	four := func(name, x string) string { return name + "(" + x + ", " + x + ", " + x + ", " + x + ")" }
	x := "A"
	for range 4 {
		x = four("p", x)
	}
	most, more := four("pppp", x), four("ppppp", x)
	if len(most) != 4096 || len(more) != 4097 {
		t.Fatal("the test is wrong:", len(most), len(more))
	}
	const rest = " | B; rule p(a, b, c, d) = a; rule pppp(a, b, c, d) = a; rule ppppp(a, b, c, d) = A; inline rule i(a) = A; inline rule j(a) = a; rule k(a) = A;"
	g := grows(t, "rule s = A | @aB "+most+rest)
	if g.Rules[1] != most {
		t.Error(g.Rules[1])
	}
	stops(t, "rule s = A | @aB "+more+rest, "ErrProds a")
	stops(t, "rule s = A | @aB j("+more+")"+rest, "ErrProds a")
	// As arguments, or inlined, they may be longer; not so in the text of what has them as arguments.
	grows(t, "rule s = A | @aB i("+more+") j("+most+")"+rest)
	grows(t, "rule s = A | @aB i("+four("p", more)+")"+rest)
	stops(t, "rule s = A | @aB k("+most+")"+rest, "ErrProds a")
	// A text that grows by parameters is told before its height is.
	stops(t, "rule s = g(A); rule g(x) = A | @ag(p(x, x, x, x)) | B; rule p(a, b, c, d) = A;", "ErrProds a")
}
