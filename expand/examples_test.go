package expand_test

import (
	"slices"
	"testing"
)

// The chapter's section Examples.

func TestExample1(t *testing.T) {
	g := isGrammar(t, "rule many(x) = | many(x) x => C($1, $2); rule s = many(A);",
		"s = many(A) => $1",
		"many(A) = => _",
		"many(A) = many(A) A => C($1, $2)")
	if !slices.Equal(g.Rules, []string{"s", "many(A)"}) {
		t.Error(g.Rules)
	}
}

func TestExample2(t *testing.T) {
	stops(t, "rule r(x) = @ar(p(x)); rule p(x) = x; rule s = r(A);", "ErrEndless a")
	isGrammar(t, "inline rule op = A | B => N($1); rule s = s op s => T($2, $1, $3) | A;",
		"s = s A s => T($2, $1, $3)",
		"s = s B s => T(N($2), $1, $3)",
		"s = A => $1")
}
