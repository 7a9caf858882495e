package derive_test

import (
	"slices"
	"testing"

	"quoin/api"
	"quoin/derive"
)

// P13.1: Tree.

// isTree holds the tree of a row, by the words too.
func isTree(t *testing.T, g api.Plain, want string, row ...int) {
	t.Helper()
	if d, e := derive.Tree(g, row...); e != api.OK || treeText(g, d) != want {
		t.Errorf("%s: %v: %s, %v, not %s", lines(g), row, treeText(g, d), e, want)
	}
	likeWords(t, g, row...)
}

// grows holds the tree of a row that is told by names.
func grows(t *testing.T, text, names, want string) {
	t.Helper()
	g := read(text)
	isTree(t, g, want, symbols(g, names)...)
}

func TestTreeOfNoDerivation(t *testing.T) {
	for _, x := range []struct{ text, names string }{
		{"S; a", ""}, {"S; a", "a"}, {"S = S", ""}, {"S = a", ""}, {"S = a", "a a"}, {"S = a b", "a"}, {"S = a S", "a"}, {"S = A; A = S; A = B; B; a", "a"}, {"S = a; error", "error"},
	} {
		g := read(x.text)
		if d, e := derive.Tree(g, symbols(g, x.names)...); e != api.ErrNone || told(d) != told(api.Deriv{}) {
			t.Error(x, d, e)
		}
	}
}

func TestTreeOfOneDerivation(t *testing.T) {
	grows(t, "S =", "", "S0()")
	grows(t, "S = a", "a", "S0(0)")
	grows(t, "S = error b error", "error b error", "S0(0 1 2)")
	grows(t, "S = A B A; A =; B = b", "b", "S0(A1() B2(0) A1())")
	grows(t, "S = a S b; S =", "a a b b", "S0(0 S0(1 S1() 2) 3)")
	grows(t, "S = A S; S = b; A = a", "a a b", "S0(A2(0) S0(A2(1) S1(2)))")
	grows(t, "S = S A; S = b; A = a", "b a a", "S0(S0(S1(0) A2(1)) A2(2))")
}

// The height of a rule counts first, then the production.
func TestTreeByHeights(t *testing.T) {
	grows(t, "S = A; S = a; A = a", "a", "S1(0)")
	grows(t, "S = A; A = B; A = C; B = D; C = a; D = a", "a", "S0(A2(C4(0)))")
	grows(t, "S = A; S = B; A = a; B = a", "a", "S0(A2(0))")
	grows(t, "S = B; S = A; A = a; B = a", "a", "S0(B3(0))")
	grows(t, "S = A b; S = B b; A = C; B = a; C = a", "a b", "S1(B3(0) 1)")
	grows(t, "S = A B; S = C C; A = a; B = D; D = b; C = a; C = E; E = b", "a b", "S0(A2(0) B3(D4(1)))")
	grows(t, "S = A B; S = C C; A = a; B = D; D = F; F = b; C = a; C = E; E = b", "a b", "S1(C6(0) C7(E8(1)))")
}

// A rule whose own height is more than the least that is needed: only what lies below it counts, not how high its neighbours are.
func TestTreeBesideHigherOnes(t *testing.T) {
	// Over a a, B has the height 2 by its production A alone; what stands beside it is higher, and B is made as low as can be.
	grows(t, "S = H B; H = I; I = J; J = h; B = C; B = A A; A = a; C = D D; D = E; E = a", "h a a", "S0(H1(I2(J3(0))) B5(A6(1) A6(2)))")
	// The root has the height 5 by H: a way to cut in which the others are higher than they need be, but lower than the root, is taken for its short pieces.
	grows(t, "S = X X H; H = I; I = J; J = K; K = h; X =; X = a; X = Y; Y = Z; Z = a a", "a a h", "S0(X5() X7(Y8(Z9(0 1))) H1(I2(J3(K4(2)))))")
	grows(t, "S = X X H; H = h; X =; X = a; X = Y; Y = Z; Z = a a", "a a h", "S0(X3(0) X3(1) H1(2))")
	grows(t, "S = X X H; H = I; I = h; X =; X = a; X = Y; Y = Z; Z = a a", "a a h", "S0(X4(0) X4(1) H1(I2(2)))")
}

func TestTreeByTheLeastProduction(t *testing.T) {
	grows(t, "S = a; S = a", "a", "S0(0)")
	grows(t, "S =; S =", "", "S0()")
	grows(t, "S = A; S = A; A = a; A = a; A = a", "a", "S0(A2(0))")
	grows(t, "S = B A; S = A B; A = a; A = b; B = a; B = b", "a b", "S0(B4(0) A3(1))")
	grows(t, "S = a B; S = A b; A = a; B = b", "a b", "S0(0 B3(1))")
	grows(t, "A = a; S = A b; S = a B; B = b; S = A B", "a", "A0(0)")
	grows(t, "S = A A; S = A A A; A = a; A = a a", "a a a", "S0(A2(0) A3(1 2))")
	grows(t, "S = A A A; S = A A; A = a; A = a a", "a a a", "S0(A2(0) A2(1) A2(2))")
	grows(t, "S = A; S = b A; S = B; A = b; B = b B; B = b; S = b b", "b b", "S6(0 1)")
}

// Productions come by rules that are found in another order than theirs, in one round.
func TestTreeByTheLeastProductionOfARound(t *testing.T) {
	grows(t, "S = C; S = B; S = A; A = a; B = a; C = a", "a", "S0(C5(0))")
	grows(t, "A0 = S; S = Z Y; S = Y Z; S = a Y; Y = a; Z = a; Y = Z", "a a", "A00(S1(Z5(0) Y4(1)))")
	grows(t, "S = D E; S = C; C = a b; E = b; D = a", "a b", "S0(D4(0) E3(1))")
	grows(t, "S = E D D; S = C b; C = A b; A = a; D = b; E = a; S = C D", "a b b", "S0(E5(0) D4(1) D4(2))")
	grows(t, "S = E D D; S = C b; C = A b; A = a; D = b; E = F; F = a; S = C D", "a b b", "S0(E5(F6(0)) D4(1) D4(2))")
}

func TestTreeByTheShortestPieces(t *testing.T) {
	grows(t, "S = S S; S = a", "a a a", "S0(S1(0) S0(S1(1) S1(2)))")
	grows(t, "S = S S; S = a", "a a a a", "S0(S0(S1(0) S1(1)) S0(S1(2) S1(3)))")
	grows(t, "S = S S; S = a", "a a a a a", "S0(S1(0) S0(S0(S1(1) S1(2)) S0(S1(3) S1(4))))")
	grows(t, "S = A A; A = a; A =", "a", "S0(A2() A1(0))")
	grows(t, "S = A A A; A = a; A =", "a", "S0(A2() A2() A1(0))")
	grows(t, "S = A A A; A = a; A =", "a a", "S0(A2() A1(0) A1(1))")
	grows(t, "S = A A A; A = a; A =; A = a a", "a a", "S0(A2() A2() A3(0 1))")
	grows(t, "S = A B; A = a; A = a a; B = a; B = a a", "a a a", "S0(A1(0) B4(1 2))")
	grows(t, "S = A A A; A = a; A = a a", "a a a a", "S0(A1(0) A1(1) A2(2 3))")
	grows(t, "S = A A b A; A = b; A =", "b b", "S0(A2() A2() 0 A1(1))")
	grows(t, "S = A b A A; A = b; A =", "b b", "S0(A2() 0 A2() A1(1))")
	grows(t, "S = A B C; A = a; A =; B = a; B = A a; B =; C = a; C =", "a a", "S0(A2() B3(0) C6(1))")
}

// Rules that make themselves alone, and rules that make nothing.
func TestTreeOfRings(t *testing.T) {
	grows(t, "S = S; S = a", "a", "S1(0)")
	grows(t, "S = A; S = a; A = S", "a", "S1(0)")
	grows(t, "S = A; A = B; B = S; B = b; A = b", "b", "S0(A4(0))")
	grows(t, "S = S S; S =", "", "S1()")
	grows(t, "S = S S; S =; S = a", "a", "S2(0)")
	grows(t, "S = S S; S =; S = a", "a a", "S0(S2(0) S2(1))")
	grows(t, "S = A S; S = a; A =; A = S", "a", "S1(0)")
	grows(t, "S = A A; A = B; A = C; B =; C =", "", "S0(A1(B3()) A1(B3()))")
	grows(t, "S = A A; A = B; A = C C; B = C; C =; D = D; B = A", "", "S0(A2(C4() C4()) A2(C4() C4()))")
	grows(t, "S = A b A; A = S; A =; A = N; N = M M; M =", "b", "S0(A2() 0 A2())")
	grows(t, "S = N a N; N = M; N = M M; M = K; K =", "a", "S0(N1(M3(K4())) 0 N1(M3(K4())))")
}

// All grammars of two rules and one kind, with at most two productions a rule of at most two symbols, in both orders, over the rows of at most three kinds: all calls that take rows.
func TestAllSmallGrammars(t *testing.T) {
	choices := upToTwo(smallProds(2, 3, 4))
	for i, one := range choices {
		for k, other := range choices {
			g := read("S; A; a")
			for _, r := range one {
				g.Prods = append(g.Prods, api.Prod{Left: 0, Right: r})
			}
			for _, r := range other {
				g.Prods = append(g.Prods, api.Prod{Left: 1, Right: r})
			}
			for size := range 4 {
				if size < 3 || (i+k)%5 == 0 {
					likeWords(t, g, []int{2, 2, 2}[:size]...)
				}
			}
		}
	}
}

// smallProds are all rows of at most two of these symbols.
func smallProds(l ...int) [][]int {
	rows := [][]int{nil}
	for _, x := range l {
		rows = append(rows, []int{x})
		for _, y := range l {
			rows = append(rows, []int{x, y})
		}
	}
	return rows
}

// upToTwo are all lists of at most two of the rows.
func upToTwo(rows [][]int) [][][]int {
	l := [][][]int{nil}
	for _, r := range rows {
		l = append(l, [][]int{r})
		for _, s := range rows {
			l = append(l, [][]int{r, s})
		}
	}
	return l
}

// Greater grammars and rows by chance: all calls that take rows.
func TestGrammarsByChance(t *testing.T) {
	m := newMaker(602)
	var often [3]int
	for range 30000 {
		g := m.plain(1+m.Intn(5), 1+m.Intn(4), 1+m.Intn(4))
		row := m.row(g, 4)
		if l, _, e := derive.Sentence(g, m.choices(9), 4); e == api.OK && len(l) <= 6 && m.Intn(3) > 0 {
			row = l
		}
		likeWords(t, g, row...)
		n, _ := derive.Count(g, row...)
		often[n]++
	}
	if often[0] < 3000 || often[1] < 3000 || often[2] < 3000 {
		t.Error(often)
	}
}

// Longer rows of a few kinds, in which much is ambiguous.
func TestLongerRows(t *testing.T) {
	m := newMaker(603)
	for n := 0; n < 300; {
		g := m.plain(3, 3, 3)
		l, _, e := derive.Sentence(g, m.choices(40), 12)
		if e == api.OK && len(l) > 6 && len(l) < 14 {
			likeWords(t, g, l...)
			n++
		}
	}
}

// Rows of more tokens than a word has bits.
func TestLongerThanAWord(t *testing.T) {
	for _, text := range []string{"S = S S; S = a", "L = L A; L = a; A = a", "R = A R; R = a; A = a"} {
		likeWords(t, read(text), slices.Repeat([]int{2}, 66)...)
	}
}
