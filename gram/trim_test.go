package gram_test

import (
	"reflect"
	"strings"
	"testing"

	"quoin/api"
	"quoin/gram"
)

// C2: Trim.

// trims holds Trim of a grammar from a start against another grammar's text.
func trims(t *testing.T, text, start, want string) {
	t.Helper()
	g := read(text)
	g.Start = symbols(g, start)[0] - len(g.Kinds)
	for i := range g.Prods {
		g.Prods[i].Level = i
		g.Prods[i].Act = api.Act{Kind: api.ActText, Name: wordLines(g)[i]}
	}
	likeWords(t, g)
	made, e := gram.Trim(g)
	if e != api.OK || gram.Check(made) != api.OK {
		t.Fatal(text, made, e)
	}
	if got := strings.Join(made.Rules, " ") + "; " + strings.Join(wordLines(made), "; "); got != want {
		t.Errorf("%s: %s, not %s", text, got, want)
	}
	if made.Rules[made.Start] != start || told(made.Kinds) != told(g.Kinds) || told(made.Precs) != told(g.Precs) {
		t.Error(text, made)
	}
	for i, p := range made.Prods { // each production is the one that it was
		if p.Act.Name != wordLines(made)[i] || wordLines(g)[p.Level] != p.Act.Name {
			t.Error(text, p)
		}
	}
}

func TestTrim(t *testing.T) {
	trims(t, "S = A b; A = a A; A =", "S", "S A; S = A b; A = a A; A =")
	trims(t, "S =", "S", "S; S =")
	trims(t, "S = S; S = error", "S", "S; S = S; S = error")
	trims(t, "S = a; A = b; B", "S", "S; S = a")
	// Rules that are not productive fall, and productions in which they stand.
	trims(t, "S = A; S = a; S = b A b; A = a A; B = S", "S", "S; S = a")
	trims(t, "S = A B; S = B; A = a; A = C; B = b; C = C c; C = A C", "S", "S A B; S = A B; S = B; A = a; B = b")
	// Rules that are reached only by productions that fall.
	trims(t, "S = A B; S = c; A = a; B = B; D = d", "S", "S; S = c")
	trims(t, "S = A B; S = C; A = a; B = B; C = c C; C =; D = A", "S", "S C; S = C; C = c C; C =")
	trims(t, "S = C; C = A B; C = ; A = E; E = a; B = B S", "S", "S C; S = C; C =")
	// Start is not the first rule.
	trims(t, "A = a A; B = b; S = B S; S = C; C = B B; C = c A", "S", "B S C; B = b; S = B S; S = C; C = B B")
	trims(t, "A = a B; B = b", "B", "B; B = b")
	trims(t, "A = B; C; B = D A; D = d; E = D; B = C; B =", "B", "A B D; A = B; B = D A; D = d; B =")
	// Kinds that nothing has stay.
	trims(t, "S = a; A = b c error d", "S", "S; S = a")
	// Equal productions stay as often as they are there.
	trims(t, "S = a; S = a; S = A; S = A; A = a; A", "S", "S A; S = a; S = a; S = A; S = A; A = a")
}

func TestNothingFalls(t *testing.T) {
	g := read("S = A b; A = a A; A =")
	g.Precs[2] = api.Prec{Level: 3, Assoc: api.AssocNot}
	g.Prods[1].Act = api.Act{Kind: api.ActNode, Name: "N", Kids: []api.Act{{Kind: api.ActPick, At: 1}, {Kind: api.ActNode, Name: "M", Kids: []api.Act{{Kind: api.ActText}}}}}
	g.Prods[0].Level = 7
	if made, e := gram.Trim(g); e != api.OK || told(made) != told(g) {
		t.Error(made, e)
	}
}

func TestStartIsNotProductive(t *testing.T) {
	for _, text := range []string{"S", "S = S", "S = S a; A = a", "S = A; A = B a; B = A A; C = c", "S = A B; A = a; B", "S = A; A = A; B = a"} {
		g := read(text)
		likeWords(t, g)
		if made, e := gram.Trim(g); e != api.ErrNone || !reflect.DeepEqual(made, api.Plain{}) {
			t.Error(text, made, e)
		}
	}
	g := read("S = a; A = A; B = b")
	for start, want := range []api.Errno{api.OK, api.ErrNone, api.OK} {
		g.Start = start
		if _, e := gram.Trim(g); e != want {
			t.Error(start, e)
		}
	}
}
