package gram_test

import (
	"slices"
	"strings"
	"testing"

	"quoin/api"
	"quoin/gram"
)

// C1: Look.

// facts are what is told of a grammar, by names: of First and Follow each rule's kinds behind its name.
func facts(t *testing.T, text string) map[string]string {
	t.Helper()
	g := read(text)
	likeWords(t, g)
	r, e := gram.Look(g)
	if e != api.OK || len(r.First) != len(g.Rules) || len(r.Follow) != len(g.Rules) {
		t.Fatal(text, r, e)
	}
	m := map[string]string{"nullable": ruleNames(g, r.Nullable), "productive": ruleNames(g, r.Productive), "reached": ruleNames(g, r.Reached), "cyclic": ruleNames(g, r.Cyclic)}
	for i, rule := range g.Rules {
		m["first "+rule] = names(g, r.First[i])
		m["follow "+rule] = names(g, r.Follow[i])
	}
	return m
}

// tells holds some of what is told of a grammar against what is wanted: `fact: names`, each.
func tells(t *testing.T, text string, wanted ...string) {
	t.Helper()
	m := facts(t, text)
	for _, w := range wanted {
		fact, want, _ := strings.Cut(w, ":")
		if got, is := m[fact]; !is || got != strings.TrimSpace(want) {
			t.Errorf("%s: %s: %s, not%s", text, fact, got, want)
		}
	}
}

func TestRulesWithoutProductions(t *testing.T) {
	tells(t, "S", "nullable:", "productive:", "reached: S", "cyclic:", "first S:", "follow S: end")
	tells(t, "S = a A b; A", "nullable:", "productive:", "reached: S A", "first S: a", "first A:", "follow A: b", "follow S: end")
	tells(t, "S = A b; A", "first S:", "first A:", "follow A: b")
	tells(t, "S = a; A", "reached: S", "productive: S", "follow A:")
}

func TestNullable(t *testing.T) {
	tells(t, "S =", "nullable: S", "productive: S", "first S:")
	tells(t, "S = A B; A = B B; B = C; C =; D = a; E = A a", "nullable: S A B C")
	tells(t, "S = A B; A = ; B = b", "nullable: A")
	tells(t, "S = A A; A = a; A = B; B = A; B =", "nullable: S A B")
	tells(t, "S = S; A = B; B = A", "nullable:", "productive:")
	tells(t, "S = error; A = error A; A =", "nullable: A")
	tells(t, "S = A A A A; A = B B B; B = ; S = a", "nullable: S A B")
}

func TestProductive(t *testing.T) {
	tells(t, "S = A; A = a A; A = a A a; B = b", "productive: B")
	tells(t, "S = A B; A = a; B = b B; B = S; C = A A error", "productive: A C")
	tells(t, "S = A; S = a; A = S A", "productive: S")
	tells(t, "S = error; A = S S", "productive: S A")
	tells(t, "S = A; A = B; B = C; C = S; C = ; D = D", "productive: S A B C")
}

func TestReached(t *testing.T) {
	tells(t, "S = A; A = a; B = S; B = b C; C = c", "reached: S A")
	tells(t, "S = a A B C; A =; B = B D; C = ; D; E = E S", "reached: S A B C D")
	g := read("S = A; A = B; B = ; C = S")
	for start, want := range []string{"S A B", "A B", "B", "S A B C"} {
		g.Start = start
		likeWords(t, g)
		if r, e := gram.Look(g); e != api.OK || ruleNames(g, r.Reached) != want {
			t.Error(start, r, e)
		}
	}
}

func TestCyclic(t *testing.T) {
	tells(t, "S = S", "cyclic: S")
	tells(t, "S = S; S = a", "cyclic: S")
	tells(t, "S = A; A = B; B = S; B = b", "cyclic: S A B")
	tells(t, "S = A; A = B; B = A; B = b; C = S", "cyclic: A B")
	tells(t, "S = A S A; S = a; A =; A = a", "cyclic: S")
	tells(t, "S = A S B; S = a; A =; B = b", "cyclic:")
	tells(t, "S = S a; S = a S; S = S A; A", "cyclic:")
	tells(t, "S = S S; S = a", "cyclic:")
	tells(t, "S = S S; S =", "cyclic: S")
	tells(t, "S = A B; A = S B; B = ; S = a", "cyclic: S A")
	tells(t, "S = A B; A = a; B = S; B =; A =", "cyclic: S B")
	tells(t, "S = A; A = a A; A = B B; B = b; C = D E; D = C F; E = ; F = E E", "cyclic: C D")
	tells(t, "S = error S; S = A A; A = S A; A = ", "cyclic: S A")
	tells(t, "S = A B; A = A1; A1 = A; B = B; A1", "cyclic: A B A1")
}

func TestFirst(t *testing.T) {
	tells(t, "S = A B c; A = a; A =; B = b; B =", "first S: a b c", "first A: a", "first B: b")
	tells(t, "S = S a; S = b; S = A S; A = c A; A = S", "first S: b c", "first A: b c")
	tells(t, "S = S a; S =", "first S: a")
	tells(t, "S = A b; A = A a", "first S:", "first A:")
	tells(t, "S = A B; A =; B = B b; B = error", "first S: error", "first B: error")
	tells(t, "S = A b; A = B; B = A; A =", "first S: b", "first A:", "first B:")
	tells(t, "S = A; A = B; B = C; C = A; A = a; B = b; C = c; D = d D; D = A", "first S: a b c", "first C: a b c", "first D: a b c d")
	tells(t, "S = a S A; A = A A b", "productive:", "first S: a", "first A:")
	tells(t, "S = a; B = b B", "reached: S", "first B: b")
}

func TestFollow(t *testing.T) {
	tells(t, "S = A B C; A = a; B =; C =; B = b; C = c", "follow S: end", "follow A: end b c", "follow B: end c", "follow C: end")
	tells(t, "S = a S b; S =", "follow S: end b")
	tells(t, "S = S S; S = a", "follow S: end a")
	tells(t, "S = A a; A = B; B = C; C = c", "follow A: a", "follow B: a", "follow C: a")
	tells(t, "S = A error; A = b A; A = B B; B = c", "follow A: error", "follow B: error c")
	tells(t, "S = a; A = B b; B = c", "follow A:", "follow B:")
	tells(t, "S = A; A = a; B = A b; C = S c", "follow A: end", "follow S: end", "follow B:")
	tells(t, "S = A B; A = A a; B = B b; B = S c", "productive:", "follow S: end c", "follow A: a", "follow B: end b c")
	tells(t, "S = N A b; N; A = a", "follow A: b", "follow N: a")
	tells(t, "S = A N; N = N a; A = c; N = b N", "follow A: b", "follow N: end a")
	tells(t, "S = A N b; N; A = c", "follow A:", "follow N: b")
	g := read("S = A b; A = a; A = S")
	g.Start = 1
	likeWords(t, g)
	if r, e := gram.Look(g); e != api.OK || names(g, r.Follow[0]) != "end b" || names(g, r.Follow[1]) != "end b" {
		t.Error(r, e)
	}
}

// smallProds are all rows of at most two of these symbols.
func smallProds(l ...int) [][]int {
	rows := [][]int{nil}
	for _, x := range l {
		rows = append(rows, []int{x})
		for _, y := range l {
			rows = append(rows, []int{x, y})
		}
	}
	return rows
}

// upToTwo are all choices of at most two of the rows.
func upToTwo(rows [][]int) [][][]int {
	l := [][][]int{nil}
	for i, r := range rows {
		l = append(l, [][]int{r})
		for _, s := range rows[:i] {
			l = append(l, [][]int{s, r})
		}
	}
	return l
}

// All grammars of two rules and one kind, with at most two productions a rule of at most two symbols: by the rows that are made.
func TestAllSmallGrammars(t *testing.T) {
	choices := upToTwo(smallProds(2, 3, 4))
	for _, one := range choices {
		for _, other := range choices {
			g := read("S A = ; a")
			g.Rules = []string{"S", "A"}
			g.Prods = nil
			for _, r := range one {
				g.Prods = append(g.Prods, api.Prod{Left: 0, Right: r})
			}
			for _, r := range other {
				g.Prods = append(g.Prods, api.Prod{Left: 1, Right: r})
			}
			likeRows(t, g, 5)
		}
	}
}

// likeRows holds Look, Least and Row against the rows that are made.
func likeRows(t *testing.T, g api.Plain, most int) {
	t.Helper()
	want, leasts := rowReport(g, most)
	if r, e := gram.Look(g); e != api.OK || told(r) != told(want) {
		t.Fatalf("%s: %+v, %v, not %+v", strings.Join(wordLines(g), "; "), r, e, want)
	}
	for rule, least := range leasts {
		if n, is, e := gram.Least(g, rule); n != least || is != want.Productive[rule] || e != api.OK {
			t.Fatal(wordLines(g), n, is, e)
		}
		row, e := gram.Row(g, rule)
		if want.Productive[rule] != (e == api.OK) || e == api.OK && (len(row) != least || !made(g, most, len(g.Kinds)+rule)[textOf(row)]) {
			t.Fatal(wordLines(g), row, e)
		}
	}
}

// Three rules and more kinds, by chance.
func TestGrammarsByRows(t *testing.T) {
	m := newMaker(501)
	for n := 0; n < 3000; {
		g := m.plain(3, 2, 2)
		if len(g.Kinds) <= 4 {
			likeRows(t, g, 6)
			n++
		}
	}
}

func TestGrammarsByChance(t *testing.T) {
	m := newMaker(502)
	for range 6000 {
		likeWords(t, m.plain(1+m.Intn(12), 1+m.Intn(3), 1+m.Intn(5)))
	}
}

// The words themselves: what is found by going over productions is what the rows show.
func TestWords(t *testing.T) {
	m := newMaker(503)
	for range 100 {
		g := m.plain(2, 2, 2)
		want, _ := rowReport(g, 6)
		if told(wordLook(g)) != told(want) {
			t.Fatalf("the test is wrong: %v: %+v, %+v", wordLines(g), wordLook(g), want)
		}
	}
}

// Rules in a long row, in both orders, and in one ring.
func TestManyRules(t *testing.T) {
	const n = 120
	for _, isBack := range []bool{false, true} {
		g := read("S; a b")
		g.Rules, g.Prods = nil, nil
		for i := range n {
			g.Rules = append(g.Rules, "R"+strings.Repeat("x", i))
			g.Prods = append(g.Prods, api.Prod{Left: i, Right: []int{4 + (i+1)%n}})
		}
		if isBack {
			g.Start = n - 1
			for i := range n {
				g.Prods[i].Right = []int{4 + (i+n-1)%n}
			}
		}
		g.Prods[7].Right = append(g.Prods[7].Right, 3)
		g.Prods = append(g.Prods, api.Prod{Left: 80, Right: []int{2}}, api.Prod{Left: 50})
		likeWords(t, g)
		if r, e := gram.Look(g); e != api.OK || ruleNames(g, r.Cyclic) != "" || !slices.Equal(r.First[7], []int{2, 3}) {
			t.Error(r.First[7], e)
		}
	}
}
