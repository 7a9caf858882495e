package derive_test

import (
	"strings"
	"testing"

	"quoin/api"
	"quoin/derive"
)

// P13.2: Viable.

// isViable holds how much of a row can be gone on with, by the words too.
func isViable(t *testing.T, g api.Plain, want int, row ...int) {
	t.Helper()
	if n, e := derive.Viable(g, row...); n != want || e != api.OK {
		t.Errorf("%s: %v: %d, %v, not %d", lines(g), row, n, e, want)
	}
	likeWords(t, g, row...)
}

// viable holds rows of names: `names | names that can't be gone on with`.
func viable(t *testing.T, text string, rows ...string) {
	t.Helper()
	g := read(text)
	for _, r := range rows {
		good, bad, _ := strings.Cut(r, "|")
		isViable(t, g, len(symbols(g, good)), symbols(g, good+bad)...)
	}
}

func TestNoRowIsDerived(t *testing.T) {
	for _, text := range []string{"S; a", "S = S; a", "S = a S", "S = A b; A = a A; C = a", "S = A B; A = a; B; C = b"} {
		g := read(text)
		for _, row := range allRows(g, 2) {
			isViable(t, g, -1, row...)
		}
	}
}

func TestViableUpToEachPlace(t *testing.T) {
	viable(t, "S = a b c", "|", "| b", "| c a", "a|", "a | a", "a | c b", "a b|", "a b | a", "a b c", "a b c | c", "a b c | a b c", "a | error b c")
	viable(t, "S =; a", "|", "| a", "| a a")
	viable(t, "S = a S b; S =", "|", "| b", "a a b b", "a a b b | b", "a a b | a", "a a a a")
	viable(t, "S = S a; S = b", "|", "| a", "b", "b a a", "b a | b a")
	viable(t, "S = A B; A = a A; A =; B = b B; B = b", "a a b b", "a b | a", "b b | a", "| error", "a a a")
	viable(t, "S = error error; a", "error", "error error", "error | a", "error error | error", "| a error")
}

// What is derived can be gone on with no further than the grammar says, or much further.
func TestViableBeyondWhatIsDerived(t *testing.T) {
	viable(t, "S = a; S = a b", "a", "a b", "a b | b")
	viable(t, "S = A; S = A c; A = a A b; A =", "a a", "a a b", "a b c", "a b | b", "c", "c | c", "a | c")
}

// Rules that are not productive lead nowhere, whatever stands ahead of them.
func TestViableWithRulesThatAreNotProductive(t *testing.T) {
	viable(t, "S = a N; S = a b; N = N a", "a", "a b", "a | a", "a | a b")
	viable(t, "S = N a; S = b; N", "| a", "b", "b | a")
	viable(t, "S = a a a N; S = a; N = b N", "a", "a | a", "a | a a b")
	viable(t, "S = A N; S = A b; A = a A; A = a; N = c N; N = N", "a a b", "a a | c", "a | c b")
	viable(t, "S = A; A = b N; A = b; N = B N; B = c", "b", "b | c")
	viable(t, "S = M a; M = N; M = b c; N = N b; N = b N", "b", "b c a", "b | b", "b | a")
	viable(t, "S = a A; A = B N c; A = b; B = b; B = b b; N", "a b", "a b | b")
}

// Rules that are not reached have no part in it.
func TestViableWithRulesThatAreNotReached(t *testing.T) {
	viable(t, "S = a; B = b B; B = b; C = a b", "a", "a | b", "| b", "| b b")
	viable(t, "S = a A; A = c; B = a b c; C = S b", "a", "a c", "a | b c", "a c | b")
	g := read("S = a A; A = c; B = b S; B = A")
	for start, want := range []int{2, 0, 0} {
		g.Start = start
		isViable(t, g, want, symbols(g, "a c b")...)
	}
	isViable(t, g, 3, symbols(g, "b a c")...)
	isViable(t, g, 1, symbols(g, "c c")...)
}

// Rules that make nothing stand ahead of what comes.
func TestViableBehindEmptyRules(t *testing.T) {
	viable(t, "S = A B C; A =; B =; C = c A c; B = b", "c", "b c c", "c c", "c | b", "b | b")
	viable(t, "S = A A A a; A = B; B =; B = b", "b b b a", "b b b | b", "a | b", "b a")
	viable(t, "S = S A; S = A; A = N; N =; N = a", "a a a", "| error")
	viable(t, "S = N S; S = a; N = M; M =; M = N; M = b S c", "b b a", "b a c a", "b a c | c", "a | a", "b a c b", "b a | a")
}

func TestViableByChance(t *testing.T) {
	m := newMaker(604)
	longest := [8]int{}
	for range 20000 {
		g := m.plain(1+m.Intn(6), 1+m.Intn(3), 1+m.Intn(4))
		row := m.row(g, 5)
		if l, _, e := derive.Sentence(g, m.choices(9), 4); e == api.OK && len(l) > 0 && len(l) <= 6 && m.Intn(2) > 0 {
			row = l
			row[m.Intn(len(l))] = m.kind(g)
		}
		n, e := derive.Viable(g, row...)
		if want := wordLongest(g, row); n != want || e != api.OK {
			t.Fatal(lines(g), row, n, e, "not", want)
		}
		longest[n+1]++
	}
	for n, often := range longest[:6] {
		if often < 100 {
			t.Error(n-1, often)
		}
	}
}
