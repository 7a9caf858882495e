package expand_test

import (
	"strconv"
	"strings"
	"testing"
)

// P11.2: inlined rules: choices and their order, actions, rings; as much as may be in one choice, and one more.

func TestChoicesInOrder(t *testing.T) {
	isGrammar(t, "inline rule i = A | B; rule s = i i;",
		"s = A A => _", "s = A B => _", "s = B A => _", "s = B B => _")
	isGrammar(t, "inline rule i = A | | B s; inline rule j = P | Q Q; rule s = error i s j;",
		"s = error A s P => _ prec 1", "s = error A s Q Q => _ prec 2", "s = error s P => _ prec 1", "s = error s Q Q => _ prec 2",
		"s = error B s s P => _ prec 1", "s = error B s s Q Q => _ prec 2")
	// Inlined alternatives within inlined ones.
	isGrammar(t, "inline rule i = j A | B j j; inline rule j = P | Q; rule s = i j;",
		"s = P A P => _ prec 1", "s = P A Q => _ prec 2", "s = Q A P => _ prec 1", "s = Q A Q => _ prec 2",
		"s = B P P P => _ prec 1", "s = B P P Q => _ prec 2", "s = B P Q P => _ prec 1", "s = B P Q Q => _ prec 2",
		"s = B Q P P => _ prec 1", "s = B Q P Q => _ prec 2", "s = B Q Q P => _ prec 1", "s = B Q Q Q => _ prec 2")
	// Alternative by alternative, and instance by instance.
	isGrammar(t, "inline rule i = r | q; rule s = i | A i; rule q = i B; rule r = ;",
		"s = r => $1", "s = q => $1", "s = A r => _", "s = A q => _", "r = => _", "q = r B => _", "q = q B => _")
	// Rules come in the order in which productions name them: those of an inlined rule where it stands.
	isGrammar(t, "inline rule i = c | b; rule s = a i d; rule a = ; rule b = ; rule c = ; rule d = ;",
		"s = a c d => _", "s = a b d => _", "a = => _", "c = => _", "d = => _", "b = => _")
	// Inlined instances.
	isGrammar(t, "inline rule i(x, y) = x | y x; rule s = i(A, B) i(s, j(P)); inline rule j(x) = x x;",
		"s = A s => _", "s = A P P s => _ prec 1", "s = B A s => _", "s = B A P P s => _ prec 1")
	// One that is only an argument is inlined where its parameter stands.
	isGrammar(t, "inline rule i = A | B; rule p(x) = x x; rule s = p(i);",
		"s = p(i) => $1", "p(i) = A A => _", "p(i) = A B => _", "p(i) = B A => _", "p(i) = B B => _")
	isGrammar(t, "inline rule i = A => N($1) | B; inline rule j(x) = P x => C($2); rule s = j(j(i));",
		"s = P P A => C(C(N($3))) prec 1", "s = P P B => C(C($3)) prec 1")
	isGrammar(t, "inline rule i = ; rule s = i i i A i;", "s = A => _")
	isGrammar(t, "inline rule i = A | A; rule s = i;", "s = A => $1", "s = A => $1")
	isGrammar(t, "inline rule i = i | ; rule s = A;", "s = A => $1") // nothing leads to it
}

func TestActionsThatMove(t *testing.T) {
	isGrammar(t, "inline rule i = A B P; rule s = A i s B => N($1, $3, $4, $2);",
		"s = A A B P s B => N($1, $5, $6, _) prec 1")
	isGrammar(t, "inline rule i = => E; rule s = A i s i B => N($1, $3, $5, $2, $4);",
		"s = A s B => N($1, $2, $3, E, E)")
	isGrammar(t, "inline rule i = A B => I($2, $1) | P => \"t\" | Q => _ | s => $1; rule s = B i B => N($2, M($2), $1, $3, $2);",
		"s = B A B B => N(I($3, $2), M(I($3, $2)), $1, $4, I($3, $2))",
		"s = B P B => N(\"t\", M(\"t\"), $1, $3, \"t\") prec 1",
		"s = B Q B => N(_, M(_), $1, $3, _) prec 2",
		"s = B s B => N($2, M($2), $1, $3, $2)")
	// A pick alone becomes what the replacing alternative makes.
	isGrammar(t, "inline rule i = A B => I($2) | P => \"t\" | Q => _ | B s => $2 | s; rule s = B i => $2;",
		"s = B A B => I($3)", "s = B P => \"t\" prec 1", "s = B Q => _ prec 2", "s = B B s => $3", "s = B s => $2")
	// What is not picked is gone.
	isGrammar(t, "inline rule i = A B => I($2); rule s = i => _ | i i => $2 | i s i => \"t\" | i => N;",
		"s = A B => _", "s = A B A B => I($4)", "s = A B s A B => \"t\"", "s = A B => N")
	// Through several.
	isGrammar(t, "inline rule i = A j A => I($2, $3, $1); inline rule j = k B k => J($3, $1, $2) | k; inline rule k = P => K($1); rule s = B i i => S($3, $2);",
		"s = B A P B P A A P B P A => S(I(J(K($10), K($8), $9), $11, $7), I(J(K($5), K($3), $4), $6, $2)) prec 1",
		"s = B A P B P A A P A => S(I(K($8), $9, $7), I(J(K($5), K($3), $4), $6, $2)) prec 1",
		"s = B A P A A P B P A => S(I(J(K($8), K($6), $7), $9, $5), I(K($3), $4, $2)) prec 1",
		"s = B A P A A P A => S(I(K($6), $7, $5), I(K($3), $4, $2)) prec 1")
	// A pick of one whose own pick is of one that is nothing.
	isGrammar(t, "inline rule i = j; inline rule j = k A => $1; inline rule k = B => _ | => \"e\"; rule s = N i => T($2, $1); rule N = ;",
		"s = N B A => T(_, $1)", "s = N A => T(\"e\", $1)", "N = => _")
}

func TestInlinedRings(t *testing.T) {
	stops(t, "inline rule i = i; rule s = @ai;", "ErrInline a")
	stops(t, "inline rule i = A | B i; rule s = A | @aB i | error;", "ErrInline a")
	stops(t, "inline rule i = A j; inline rule j = k; inline rule k = B | j A; rule s = r A; rule r = A | @ai;", "ErrInline a")
	stops(t, "inline rule i(x) = A i(x); rule s = @ai(A);", "ErrInline a")
	stops(t, "inline rule i(x, y) = i(y, x); rule s = B | @ai(A, B);", "ErrInline a")
	stops(t, "inline rule i(x, y) = j(y, x) | A; inline rule j(x, y) = B i(x, y); rule s = B | @ai(A, s) | i(A, A);", "ErrInline a")
	stops(t, "inline rule i(x) = x A; inline rule j = B i(j); rule s = B | @aj;", "ErrInline a")
	// No ring: the same one behind itself; another instance of the same rule; one that a rule that is not inlined leads to.
	isGrammar(t, "inline rule i = A; inline rule j = i i; rule s = j i j;", "s = A A A A A => _")
	isGrammar(t, "inline rule i(x) = x A; rule s = i(i(i(B)));", "s = B A A A => _")
	isGrammar(t, "inline rule i(x, y) = j(x); inline rule j(x) = x; rule s = i(i(A, B), A);", "s = A => $1")
	isGrammar(t, "inline rule i = A s; rule s = i | B;", "s = A s => _", "s = B => $1")
	isGrammar(t, "inline rule i(x) = x A; inline rule j = B i(k(j)); rule k(x) = A x; rule s = A j;", "s = A B k(j) A => _", "k(j) = A B k(j) A => _")
	// A ring that only a later choice comes to is told, though the productions ahead were made.
	stops(t, "inline rule i = A | B | j; inline rule j = A i; rule s = A | @ai i;", "ErrInline a")
}

// As many symbols of a production as may be, and one more.
func TestManySymbols(t *testing.T) {
	many := "inline rule i = " + times(32, "A") + "; inline rule e = ; inline rule b = B; "
	g := grows(t, many+"rule s = i i;")
	if len(g.Prods[0].Right) != 64 {
		t.Error(len(g.Prods[0].Right))
	}
	grows(t, many+"rule s = i e i e;")
	stops(t, many+"rule s = A | @ai i A;", "ErrProds a")
	stops(t, many+"rule s = A | @aA i i | B;", "ErrProds a")
	stops(t, many+"rule s = A | @ai i e b | B;", "ErrProds a")
	// Only some choices have one more.
	most := "inline rule c = " + times(31, "A") + " | " + times(32, "A") + "; "
	grows(t, many+most+"rule s = i c;")
	stops(t, many+most+"rule s = A c | @aA i c | A;", "ErrProds a")
}

// As many symbols inlined in one choice as may be, and one more.
func TestManyInlined(t *testing.T) {
	// With f 32 symbols are inlined, with h 248.
	many := "inline rule e = ; inline rule f = " + times(31, "e") + "; inline rule h = " + times(7, "f") + " " + times(23, "e") + "; inline rule x = | A; "
	isGrammar(t, many+"rule s = A "+times(8, "f")+";", "s = A => _")
	stops(t, many+"rule s = A | @aA "+times(8, "f")+" e;", "ErrProds a")
	stops(t, many+"rule s = A | @aA e "+times(8, "f")+" | B;", "ErrProds a")
	isGrammar(t, many+"rule s = e e h e e A e e e e;", "s = A => _")
	stops(t, many+"rule s = A | B | @ae e h e e A e e e e e;", "ErrProds a")
	isGrammar(t, many+"rule s = x h e e e e e x x;",
		"s = => _", "s = A => _", "s = A => _", "s = A A => _", "s = A => _", "s = A A => _", "s = A A => _", "s = A A A => _")
	stops(t, many+"rule s = A | @ax h e e e e e x x x;", "ErrProds a")
	// They are counted for each choice anew; it may be a later one that has one more.
	isGrammar(t, many+"inline rule k = e | h e | h; rule s = e k e e e e e; ", "s = => _", "s = => _", "s = => _")
	stops(t, many+"inline rule k = e | h e | h e e e | e; rule s = A | @ae k e e e e e; ", "ErrProds a")
	// Within one another: a row of rules, each in the one ahead.
	row := ""
	for i := range 254 {
		row += "inline rule r" + strconv.Itoa(i) + " = r" + strconv.Itoa(i+1) + "; "
	}
	row += "inline rule r254 = A B => N($2); "
	isGrammar(t, row+"rule s = B r0 => M($2);", "s = B A B => M(N($3))")
	isGrammar(t, row+"rule s = r0 r254 => M($2, $1);", "s = A B A B => M(N($4), N($2))")
	stops(t, row+"rule s = A | @ar0 r253 => M($2, $1);", "ErrProds a")
}

// As many productions as may be, and one more.
func TestManyProductions(t *testing.T) {
	two := "inline rule i = A | B; "
	g := grows(t, two+"rule s = "+times(12, "i")+";")
	if len(g.Prods) != 4096 {
		t.Error(len(g.Prods))
	}
	stops(t, two+"rule s = "+times(12, "i")+" | @aA;", "ErrProds a")
	stops(t, two+"rule s = A | @a"+times(12, "i")+";", "ErrProds a")
	stops(t, two+"rule s = @a"+times(32, "i")+";", "ErrProds a") // far more choices than could be gone through
	stops(t, two+"rule s = @br "+times(11, "i")+" | A "+times(10, "i")+" | B "+times(10, "i")+"; rule r = @aA;", "ErrProds a")
	g = grows(t, two+"rule s = "+times(11, "i")+" | A "+times(10, "i")+" | B B "+times(9, "i")+" | B "+times(8, "i")+" | "+times(8, "i")+";")
	if len(g.Prods) != 4096 {
		t.Error(len(g.Prods))
	}
}

// partsOf is an action of so many parts: 1 to 289.
func partsOf(many int) string {
	many--
	var l []string
	for many > 0 && len(l) < 16 {
		kids := min(many-1, 16)
		many -= kids + 1
		kid := "M"
		if kids > 0 {
			kid += "(" + strings.Repeat("_, ", kids-1) + "_)"
		}
		l = append(l, kid)
	}
	if len(l) == 0 {
		return "N"
	}
	return "N(" + strings.Join(l, ", ") + ")"
}

func TestLargeActions(t *testing.T) {
	for _, many := range []int{1, 2, 17, 18, 19, 255, 256} {
		g := grows(t, "rule s = A => "+partsOf(many)+";")
		if got := wordParts(g.Prods[0].Act); got != many {
			t.Error(many, got)
		}
	}
	stops(t, "rule s = A | @aB => "+partsOf(257)+";", "ErrAction a")
	stops(t, "rule s = A | @aB => "+partsOf(280)+";", "ErrAction a")
	isGrammar(t, "rule s = A; rule r = B => "+partsOf(280)+";", "s = A => $1")
	// Picks become what is picked, as often as it is.
	of := func(many int) string { return "inline rule i = A => " + partsOf(many) + "; " }
	grows(t, of(255)+"rule s = A i => N($2);")
	grows(t, of(256)+"rule s = A i => $2;")
	stops(t, of(256)+"rule s = @aA i => N($2);", "ErrAction a")
	stops(t, of(257)+"rule s = A | @aA i => $2;", "ErrAction a")
	grows(t, of(17)+"rule s = A i => N($2, $2, $2, $2, $2, $2, $2, $2, $2, $2, $2, $2, $2, $2, $2);")                     // 256
	stops(t, of(17)+"rule s = @aA i => N($2, $2, $2, $2, $2, $2, $2, $2, $2, $2, $2, $2, $2, $2, $2, _);", "ErrAction a") // 257
	stops(t, of(17)+"rule s = @aA i => N($2, $2, $2, $2, $2, $2, $2, $2, $2, $2, $2, $2, $2, $2, $2, $1);", "ErrAction a")
	// What is not picked counts for nothing.
	isGrammar(t, of(280)+"rule s = A i => $1;", "s = A A => $1")
	isGrammar(t, of(280)+"inline rule j = i B; rule s = j => N($1);", "s = A B => N(_)")
	isGrammar(t, of(200)+"inline rule j = i i => T($1, $2); rule s = A j => $1;", "s = A A A => $1")
	// Only some choices make it too large.
	stops(t, of(200)+"inline rule j = A | i; rule s = B | @aA j i => N($2, $3);", "ErrAction a")
	// Far larger than could be made.
	big := "inline rule i0 = A => N($1, $1, $1, $1); "
	for i := range 99 {
		big += "inline rule i" + strconv.Itoa(i+1) + " = i" + strconv.Itoa(i) + " => N($1, $1, $1, $1, $1, $1, $1, $1); "
	}
	stops(t, big+"rule s = A | @ai99 => $1;", "ErrAction a")
	isGrammar(t, big+"rule s = i99 => _;", "s = A => _")
}

// Of several things that stop one choice the first that is met is told.
func TestFirstInOneChoice(t *testing.T) {
	rest := " rule p(x) = A; inline rule m(x) = A; rule long(a, b, c, d) = A; inline rule ring = ring A; inline rule i = " + times(32, "A") +
		"; inline rule e = ; inline rule f = " + times(31, "e") + "; inline rule h = " + times(7, "f") + " " + times(23, "e") + "; inline rule big = => " + partsOf(257) + ";"
	endless := nested(9, "p", "A")
	long := "A" // an instance of 4^6 kinds
	for range 6 {
		long = "long(" + long + ", " + long + ", " + long + ", " + long + ")"
	}
	for _, c := range []struct{ alt, why string }{
		{endless + " ring", "ErrEndless"},
		{"ring " + endless, "ErrInline"},
		{"A B p(A) ring " + endless, "ErrInline"},
		// 64 symbols stand already.
		{"i i A " + endless, "ErrProds"},
		{"i i p(A) " + endless, "ErrProds"},
		{"i i A ring", "ErrProds"},
		{"i i " + endless, "ErrEndless"},
		{"i i " + nested(9, "m", "A"), "ErrEndless"},
		{"i i ring", "ErrInline"},
		{"i i e " + endless, "ErrEndless"},
		{"i i m(A)", "ErrProds"},
		// 256 were inlined already.
		{"h " + times(8, "e") + " e " + endless, "ErrProds"},
		{"h " + times(8, "e") + " A e", "ErrProds"},
		{"h " + times(8, "e") + " " + endless, "ErrEndless"},
		{"h " + times(8, "e") + " " + nested(9, "m", "A"), "ErrEndless"},
		{"h " + times(8, "e") + " ring", "ErrProds"},
		{"h " + times(7, "e") + " ring", "ErrInline"},
		{"h " + times(6, "e") + " ring", "ErrInline"},
		// The action is too large.
		{"big ring => $1", "ErrInline"},
		{"big " + endless + " => $1", "ErrEndless"},
		{"big i i A => $1", "ErrProds"},
		{"big " + long + " => $1", "ErrAction"},
		{long + " big => $2", "ErrAction"},
		{"A => " + partsOf(257), "ErrAction"},
		// The text is too long.
		{long + " ring", "ErrInline"},
		{long + " " + endless, "ErrEndless"},
		{long, "ErrProds"},
	} {
		for _, behind := range []string{endless, "ring", "i i i", "big => $1", long} {
			stops(t, "rule s = B | @a"+c.alt+" | "+behind+";"+rest, c.why+" a")
		}
	}
	// The action is looked at ahead of how many productions there are.
	full := "inline rule two = A | B; rule s = " + times(12, "two")
	stops(t, full+" | @aA;"+rest, "ErrProds a")
	stops(t, full+" | @aA => "+partsOf(257)+";"+rest, "ErrAction a")
	stops(t, full+" | @aring;"+rest, "ErrInline a")
	stops(t, full+" | @a"+endless+";"+rest, "ErrEndless a")
}
