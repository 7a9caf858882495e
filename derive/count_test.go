package derive_test

import (
	"strings"
	"testing"

	"quoin/api"
	"quoin/derive"
)

// P13.1: Count.

// counts holds how often rows are derived, by the words too: `names: how often`, each.
func counts(t *testing.T, text string, wanted ...string) {
	t.Helper()
	g := read(text)
	for _, w := range wanted {
		names, often, _ := strings.Cut(w, ":")
		want := map[string]int{"0": 0, "1": 1, "2": 2}[strings.TrimSpace(often)]
		row := symbols(g, names)
		if n, e := derive.Count(g, row...); n != want || e != api.OK {
			t.Errorf("%s: %s: %d, %v, not %d", text, names, n, e, want)
		}
		likeWords(t, g, row...)
	}
}

func TestCountOfNothing(t *testing.T) {
	counts(t, "S; a", ": 0", "a: 0")
	counts(t, "S = S; a", ": 0", "a: 0")
	counts(t, "S = a S; b", ": 0", "a: 0", "a a: 0", "b: 0")
	counts(t, "S = A; A = B; B = A; A = C; C; a", ": 0", "a: 0")
	counts(t, "S = a b", ": 0", "a: 0", "b: 0", "b a: 0", "a b: 1", "a b a: 0", "a b b: 0", "error: 0")
}

func TestCountOnce(t *testing.T) {
	counts(t, "S =; a", ": 1", "a: 0")
	counts(t, "S = A B A; A =; B =; a", ": 1", "a: 0")
	counts(t, "S = a S b; S =", ": 1", "a b: 1", "a a b b: 1", "a a b: 0", "a b a b: 0")
	counts(t, "S = S a; S =", ": 1", "a: 1", "a a a a: 1")
	counts(t, "S = error S; S = error", "error: 1", "error error: 1", ": 0")
	counts(t, "S = A; A = B; B = C; C = a", "a: 1")
	counts(t, "S = A b; S = A c; A = a A; A = a", "a a b: 1", "a a c: 1", "a a: 0", "b: 0")
}

func TestCountTwice(t *testing.T) {
	counts(t, "S = a; S = a", "a: 2")
	counts(t, "S =; S =; a", ": 2", "a: 0")
	counts(t, "S = A; S = B; A = a; B = a", "a: 2")
	counts(t, "S = S S; S = a", "a: 1", "a a: 1", "a a a: 2")
	counts(t, "S = A A; A = a; A =", ": 1", "a: 2", "a a: 1", "a a a: 0")
	counts(t, "S = A B; A = a; A = a a; B = a; B = a a", "a a: 1", "a a a: 2", "a a a a: 1")
	counts(t, "S = A B C; A = a; A =; B = a; B =; C = c", "c: 1", "a c: 2", "a a c: 1")
	counts(t, "S = a A; S = a B; A = b; B = b", "a b: 2", "a: 0")
	counts(t, "S = a b; S = a b; S = a b", "a b: 2")
	counts(t, "S = a; S = a; S = a", "a: 2")
}

// Rules that make themselves alone, and rules that make nothing in several ways, or endlessly many.
func TestCountEndless(t *testing.T) {
	counts(t, "S = S; S = a", "a: 2", ": 0")
	counts(t, "S = a; S = S", "a: 2")
	counts(t, "S = A; A = B; B = S; B = b", "b: 2")
	counts(t, "S = A; A = A; A =; a", ": 2", "a: 0")
	counts(t, "S = S S; S =; a", ": 2")
	counts(t, "S = S S; S =; S = a", "a: 2", ": 2")
	counts(t, "S = A S; S = a; A =", "a: 2")
	counts(t, "S = S A; S = a; A =", "a: 2")
	counts(t, "S = a A; A = B; A = C; B =; C =", "a: 2")
	counts(t, "S = A A; A = B; A = C; B =; C =; a", ": 2")
}

// What is ambiguous stands somewhere inside, in front, in the middle, at the end, or deep.
func TestCountInside(t *testing.T) {
	counts(t, "S = a A b; A = c; A = c", "a c b: 2", "a b: 0")
	counts(t, "S = A b; A = c; A = c", "c b: 2")
	counts(t, "S = b A; A = c; A = c", "b c: 2")
	counts(t, "S = a S; S = A; A = B; B = b; B = C; C = b", "a a b: 2", "b: 2")
	counts(t, "S = A A a; A = b; A =", "a: 1", "b a: 2", "b b a: 1")
	counts(t, "S = A A A a; A = b; A = b b", "b b b a: 1", "b b b b a: 2", "b b b b b a: 2", "b b b b b b a: 1")
	counts(t, "S = a N; N = M M; M = K; K =; K = N", "a: 2")
	counts(t, "S = a N; N = M M; M = K; K =", "a: 1")
}

// What is ambiguous cannot be gone on with, or stands in a rule that the row does not need.
func TestCountOutside(t *testing.T) {
	counts(t, "S = A b; S = a c; A = a; A = a", "a b: 2", "a c: 1")
	counts(t, "S = a b; A = a; A = a; S = A c", "a b: 1", "a c: 2")
	counts(t, "S = a; A = a; A = A", "a: 1")
	counts(t, "S = a b; A = A A; A =; B = B; B = b", "a b: 1")
	counts(t, "S = A c; S = B b; A = a; A = a; B = a", "a b: 1", "a c: 2")
	counts(t, "S = a S b; S = a b; S = N c; N =; N =", "a a b b: 1", "a c b: 2")
	counts(t, "S = A B; A = a; A = a A; B = b; C = a A; C = A a; S = C c", "a a b: 1", "a a c: 2")
	counts(t, "S = A A A; A = a; A =; S = S A x", "a a a: 1", "a a: 2")
}

// The start may be any rule.
func TestCountOfStarts(t *testing.T) {
	g := read("S = A A; A = a; A = B; B = a; B = b")
	for start, want := range [][]int{{0, 0, 2, 2, 1}, {2, 1, 0, 0, 0}, {1, 1, 0, 0, 0}} {
		g.Start = start
		for i, names := range []string{"a", "b", "a b", "b a", "b b"} {
			row := symbols(g, names)
			if n, e := derive.Count(g, row...); n != want[i] || e != api.OK {
				t.Error(start, names, n, e)
			}
			likeWords(t, g, row...)
		}
	}
}

// All rows of four kinds at most, of grammars in which much is ambiguous.
func TestCountOfAllRows(t *testing.T) {
	for _, text := range []string{
		"S = S S; S = a S b; S =; S = S",
		"S = A S B; S =; A = a; A =; B = b; B = A",
		"E = E a E; E = b E; E = b; E = E E",
		"S = A B A B; A = a A; A =; B = A; B = b",
		"S = A B C; A = B; B = C; C = A; C = a b; A =; B = b",
	} {
		g := read(text)
		for _, row := range allRows(g, 4) {
			likeWords(t, g, row...)
		}
	}
}

// allRows are all rows of at most so many kinds.
func allRows(g api.Plain, most int) [][]int {
	l := [][]int{nil}
	for at := 0; at < len(l); at++ {
		for kind := 1; kind < len(g.Kinds) && len(l[at]) < most; kind++ {
			l = append(l, append(append([]int{}, l[at]...), kind))
		}
	}
	return l
}
