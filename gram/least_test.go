package gram_test

import (
	"math"
	"slices"
	"strconv"
	"strings"
	"testing"

	"quoin/api"
	"quoin/gram"
)

// C3: Least and Row.

// shortest holds Least and Row of a rule against a row of kinds, by names.
func shortest(t *testing.T, text, rule, want string) {
	t.Helper()
	g := read(text)
	likeWords(t, g)
	n := symbols(g, rule)[0] - len(g.Kinds)
	row, e := gram.Row(g, n)
	if e != api.OK || names(g, row) != want {
		t.Errorf("%s: %s, %v, not %s", text, names(g, row), e, want)
	}
	if least, is, e := gram.Least(g, n); e != api.OK || !is || least != len(strings.Fields(want)) {
		t.Error(text, least, is, e)
	}
}

func TestShortest(t *testing.T) {
	shortest(t, "S =", "S", "")
	shortest(t, "S = a; S =", "S", "")
	shortest(t, "S = A B; A = B; B = ; A = a", "S", "")
	shortest(t, "S = A b A; A = a A; A =", "S", "b")
	shortest(t, "S = a b c; S = A A; A = d", "S", "d d")
	shortest(t, "S = a b; S = A B A; A = B; B =", "S", "")
	shortest(t, "S = S a; S = error", "S", "error")
	shortest(t, "S = A; A = a A a; A = B; B = b B; B = c c S; B = c error b; S = A A", "S", "c error b")
	shortest(t, "S = A; S = a b c d; A = B C; B = b b; C = c", "S", "b b c")
	shortest(t, "S = N; S = a a; N = N; N = S N", "S", "a a")
	shortest(t, "A = a; S = A A A; B = b S", "B", "b a a a")
}

// Of several that are as short: the one of the least height, of these the first.
func TestHeights(t *testing.T) {
	shortest(t, "S = a; S = b", "S", "a")
	shortest(t, "S = b; S = a", "S", "b")
	shortest(t, "S = A; S = b; A = a", "S", "b")                      // kinds alone are ahead of rules
	shortest(t, "S = A; S = B; A = a; B = b", "S", "a")               // both in the second round
	shortest(t, "S = A; S = B; A = C; C = a; B = b", "S", "b")        // the second comes a round ahead
	shortest(t, "S = A; S = B; A = C; C = a; B = D; D = b", "S", "a") // both in the third round
	shortest(t, "S = S; S = A; A = S; A = a", "S", "a")               // a rule is no part of its own row
	shortest(t, "S = A; A = S; A = B; B = b; S = C; C = D; D = c", "S", "b")
	shortest(t, "S = A B; S = c; A =; B = b; S = a", "S", "c")
	shortest(t, "S = A B; S = C D; A =; B = b; D = a; C = E; E =", "S", "b")
	shortest(t, "S = C D; S = A B; A =; B = b; D = a; C = E; E =", "S", "b")
	shortest(t, "S = a b; S = A; A = B; B = c", "S", "c") // what is shorter is ahead of heights
	shortest(t, "S = A B; A = a; A = b; B = B1; B = A; B1 = c", "S", "a c")
	shortest(t, "S = A A; A = B; A = c; B = b; S = B B", "S", "c c")
	shortest(t, "S = A; S = B; S = b; A = a; B = c; T = S; T = A", "T", "b")
	shortest(t, "S = A; S = B; S = b; A = a; B = c; T = A; T = S", "T", "a")
}

func TestNoRow(t *testing.T) {
	for _, text := range []string{"S", "S = S", "S = a S", "S = A B; A = a; B", "S = A a; A = S; A = A A"} {
		g := read(text)
		likeWords(t, g)
		if n, is, e := gram.Least(g, 0); n != 0 || is || e != api.OK {
			t.Error(text, n, is, e)
		}
		if l, e := gram.Row(g, 0); len(l) > 0 || e != api.ErrNone {
			t.Error(text, l, e)
		}
	}
}

func TestNoRule(t *testing.T) {
	g := read("S = A b; A = a A; A =; B")
	for _, n := range []int{math.MinInt, -4, -1, 3, 4, 5, 7, math.MaxInt} {
		if least, is, e := gram.Least(g, n); least != 0 || is || e != api.ErrArg {
			t.Error(n, least, is, e)
		}
		if l, e := gram.Row(g, n); len(l) > 0 || e != api.ErrArg {
			t.Error(n, l, e)
		}
	}
	for n := range 3 {
		if _, _, e := gram.Least(g, n); e != api.OK {
			t.Error(n, e)
		}
		if _, e := gram.Row(g, n); e == api.ErrArg {
			t.Error(n, e)
		}
	}
}

// powers is a grammar of so many rules: the one of the number n makes 2^n kinds a and nothing else. More is further productions.
func powers(n int, more string) api.Plain {
	text := "P0 = a"
	for i := 1; i < n; i++ {
		half := " P" + strconv.Itoa(i-1)
		text += "; P" + strconv.Itoa(i) + " =" + half + half
	}
	return read(text + more)
}

// measures holds Least and Row of a rule against a length; beyond MaxToks there is no row.
func measures(t *testing.T, g api.Plain, rule string, want int) {
	t.Helper()
	n := slices.Index(g.Rules, rule)
	least, is, e := gram.Least(g, n)
	if least != want || !is || e != api.OK {
		t.Error(rule, least, is, e)
	}
	row, e := gram.Row(g, n)
	switch {
	case want > api.MaxToks:
		if len(row) > 0 || e != api.ErrLong {
			t.Error(rule, len(row), e)
		}
	case len(row) != want || e != api.OK || !isKinds(g, row):
		t.Error(rule, len(row), e)
	}
}

func TestLongest(t *testing.T) {
	g := powers(40, "; L = P16 a; M = P15 P15; N = P15 P14 P13 P12 P11 P10 P9 P8 P7 P6 P5 P4 P3 P2 P1 P0; O = N a; Q = N a b; R = P17; R = b; T = P39 P39; T = L; U = R P16; V = R N; W = P16 P20; W = P39; E = E P16; E = P16 X; X =")
	for i := range 40 {
		measures(t, g, "P"+strconv.Itoa(i), min(1<<i, 65537))
	}
	measures(t, g, "L", 65537)
	measures(t, g, "M", 65536)
	measures(t, g, "N", 65535)
	measures(t, g, "O", 65536)
	measures(t, g, "Q", 65537)
	measures(t, g, "R", 1)
	measures(t, g, "T", 65537)
	measures(t, g, "U", 65537)
	measures(t, g, "V", 65536)
	measures(t, g, "W", 65537)
	measures(t, g, "E", 65536)
}

// A Least that no number of the machine holds.
func TestHugeLeasts(t *testing.T) {
	g := powers(2000, "; R = P1999 P1999; R = P16; S = P1999; S = P63; S = P64; S = P31")
	measures(t, g, "P1999", 65537)
	measures(t, g, "P64", 65537)
	measures(t, g, "R", 65536)
	measures(t, g, "S", 65537)
	g.Prods[1].Right = slices.Repeat(g.Prods[1].Right[:1], 64)
	measures(t, g, "P1", 64)
	measures(t, g, "P11", 65536)
	measures(t, g, "P12", 65537)
}

// Rules that make nothing, or one kind, in so many steps that no one could go through them.
func TestManySteps(t *testing.T) {
	g := powers(2000, "; S = P1999 b P1999; R = P1999; R = a; T = S P1998 S")
	g.Prods[0].Right = nil
	measures(t, g, "P1999", 0)
	measures(t, g, "S", 1)
	measures(t, g, "R", 0)
	measures(t, g, "T", 2)
	if row, e := gram.Row(g, slices.Index(g.Rules, "T")); e != api.OK || names(g, row) != "b b" {
		t.Error(row, e)
	}
}

// What comes of a rule a second time is what came the first time.
func TestRulesAgain(t *testing.T) {
	shortest(t, "S = A B A B A; A = a b c; B = d A", "S", "a b c d a b c a b c d a b c a b c")
	shortest(t, "S = A c A A; A = B d B; B = a; B = b", "S", "a d a c a d a a d a")
}
