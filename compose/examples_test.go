package compose_test

import "testing"

// The chapter's section Examples.

const exampleL = `module L; open rule many(x) = | many(x) x; rule s = many(s);`

func TestExample1(t *testing.T) {
	l := []string{`module M; use L (many as list); rule s = list(A); start s; token A = "a";`, exampleL}
	isOrder(t, l, "M", "L")
	isComposed(t, l, `module M; token A = "a"; rule s = many(A); rule many(x) = | many(x) x; rule s_2 = many(s_2); start s;`)
	isName(t, l, "M", "s", "s")
	isName(t, l, "L", "s", "s_2")
	isName(t, l, "L", "many", "many")
}

func TestExample2(t *testing.T) {
	isWrong(t, []string{`module M; @ause L (s); rule r = s; start r; token A = "a";`, exampleL}, "M ErrClosed a")
	isWrong(t, []string{`module M; use L (many as list); rule s = list(A); start s; token A = "a";`,
		`module L; @ause M; open rule many(x) = | many(x) x; rule s = many(s);`}, "L ErrRing a")
	isComposed(t, []string{`module M; use L; open rule many(y) = y y;`, exampleL},
		`module M; rule many(x) = | many(x) x | x x; rule s = many(s);`)
}
