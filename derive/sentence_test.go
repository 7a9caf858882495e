package derive_test

import (
	"math"
	"slices"
	"strconv"
	"strings"
	"testing"

	"quoin/api"
	"quoin/derive"
)

// P13.4: Sentence.

// makes holds a sentence: its row by names, and its tree.
func makes(t *testing.T, text string, prods []int, most int, names, tree string) {
	t.Helper()
	g := read(text)
	row, d, e := derive.Sentence(g, prods, most)
	if e != api.OK || !slices.Equal(row, symbols(g, names)) || treeText(g, d) != tree {
		t.Errorf("%s: %v, %d: %v, %s, %v, not %s, %s", text, prods, most, row, treeText(g, d), e, names, tree)
	}
	likeSentence(t, g, prods, most)
}

// fails holds a sentence that is none.
func fails(t *testing.T, text string, prods []int, most int, want api.Errno) {
	t.Helper()
	g := read(text)
	if row, d, e := derive.Sentence(g, prods, most); e != want || len(row) > 0 || told(d) != told(api.Deriv{}) {
		t.Errorf("%s: %v, %d: %v, %v, %v, not %v", text, prods, most, row, d, e, want)
	}
	likeSentence(t, g, prods, most)
}

// likeSentence holds a sentence against the words.
func likeSentence(t *testing.T, g api.Plain, prods []int, most int) {
	t.Helper()
	row, d, e := derive.Sentence(g, prods, most)
	wantRow, want, wantE := wordSentence(g, prods, most)
	if e != wantE || !slices.Equal(row, wantRow) || told(d) != told(want) {
		t.Fatal(lines(g), prods, most, row, treeText(g, d), e, "not", wantRow, treeText(g, want), wantE)
	}
}

const many = 1000

func TestSentenceWithoutChoices(t *testing.T) {
	makes(t, "E = E plus E; E = n", nil, many, "n", "E1(0)")
	makes(t, "S =; S = a", nil, many, "", "S0()")
	makes(t, "S = S; S = S a; S = b; S = c", nil, many, "b", "S2(0)")
	makes(t, "S = A; S = B B; A = A; A = C; B = b; C = c", nil, many, "b b", "S1(B4(0) B4(1))") // the least height, not the least row
	makes(t, "S = A B; A = B B; A = a; B = b; B = A", nil, many, "a b", "S0(A2(0) B3(1))")
	makes(t, "S = A; S = C; A = B; B = b; C = D; D = d", nil, many, "b", "S0(A2(B3(0)))")                                        // of several the least production
	makes(t, "S = H A; H = I; I = J; J = h; A = B; A = C; B = D; D = d; C = c", nil, many, "h c", "S0(H1(I2(J3(0))) A5(C8(1)))") // each by its own height
	makes(t, "S = error", nil, many, "error", "S0(0)")
	makes(t, "S = A A; A = N; A = a N N; N =", nil, many, "", "S0(A1(N3()) A1(N3()))")
}

func TestSentenceByChoices(t *testing.T) {
	g := "E = E plus E; E = n"
	makes(t, g, []int{1}, many, "n", "E1(0)")
	makes(t, g, []int{0}, many, "n plus n", "E0(E1(0) 1 E1(2))")
	makes(t, g, []int{0, 1, 0}, many, "n plus n plus n", "E0(E1(0) 1 E0(E1(2) 3 E1(4)))")
	makes(t, g, []int{0, 0, 1}, many, "n plus n plus n", "E0(E0(E1(0) 1 E1(2)) 3 E1(4))")
	makes(t, g, []int{0, 0, 1, 1, 0}, many, "n plus n plus n plus n", "E0(E0(E1(0) 1 E1(2)) 3 E0(E1(4) 5 E1(6)))")
	makes(t, g, []int{1, 0, 0, 0}, many, "n", "E1(0)") // more than are used
	// A number is a production's place among those of its own rule, whichever stand between.
	makes(t, "S = A B; B = x; A = a; B = y; A = b; B = z", []int{0, 1, 2}, many, "b z", "S0(A4(0) B5(1))")
	makes(t, "S = A B; B = x; A = a; B = y; A = b; B = z", []int{0, 0, 1}, many, "a y", "S0(A2(0) B3(1))")
	makes(t, "S = A B; A = a A; A = a; B = b", []int{0, 0, 0, 1}, many, "a a a b", "S0(A1(0 A1(1 A2(2))) B3(3))")
	makes(t, "S = S S; S =; S = a", []int{0, 1, 0, 2, 2}, many, "a a", "S0(S1() S0(S2(0) S2(1)))")
}

// Numbers beyond how many productions there are, and below 0, are taken modulo: a number from 0 on.
func TestSentenceModulo(t *testing.T) {
	g := "S = a; S = b; S = c"
	for _, x := range []struct {
		n    int
		want string
	}{{0, "a"}, {1, "b"}, {2, "c"}, {3, "a"}, {4, "b"}, {5, "c"}, {302, "c"}, {-1, "c"}, {-2, "b"}, {-3, "a"}, {-4, "c"}, {-6, "a"}} {
		makes(t, g, []int{x.n}, many, x.want, "S"+strconv.Itoa(strings.Index("abc", x.want))+"(0)")
	}
	for _, x := range []struct{ n, want int }{{math.MaxInt, math.MaxInt % 3}, {math.MinInt, math.MinInt%3 + 3}} { // 2^63 is 2 modulo 3
		if row, _, e := derive.Sentence(read(g), []int{x.n}, many); e != api.OK || !slices.Equal(row, []int{2 + x.want}) {
			t.Error(x, row, e)
		}
	}
	makes(t, "S = a", []int{7}, many, "a", "S0(0)")
	makes(t, "S = a", []int{-7}, many, "a", "S0(0)")
}

// Once the row has most tokens, choices count no more.
func TestSentenceMost(t *testing.T) {
	list := "S = a S; S = b"
	zeros := []int{0, 0, 0, 0, 0}
	makes(t, list, zeros, many, "a a a a a b", "S0(0 S0(1 S0(2 S0(3 S0(4 S1(5))))))")
	makes(t, list, zeros, 6, "a a a a a b", "S0(0 S0(1 S0(2 S0(3 S0(4 S1(5))))))")
	makes(t, list, zeros, 5, "a a a a a b", "S0(0 S0(1 S0(2 S0(3 S0(4 S1(5))))))")
	makes(t, list, zeros, 4, "a a a a b", "S0(0 S0(1 S0(2 S0(3 S1(4)))))")
	makes(t, list, zeros, 3, "a a a b", "S0(0 S0(1 S0(2 S1(3))))")
	makes(t, list, zeros, 1, "a b", "S0(0 S1(1))")
	for _, most := range []int{0, -1, -100, math.MinInt} {
		makes(t, list, zeros, most, "b", "S1(0)")
	}
	makes(t, list, zeros, math.MaxInt, "a a a a a b", "S0(0 S0(1 S0(2 S0(3 S0(4 S1(5))))))")
	// The row may have more tokens than that in the end: what was begun is gone on with, as low as can be.
	makes(t, "S = a a a A A; A = S b; A = c", []int{0, 0, 0}, 2, "a a a c c", "S0(0 1 2 A2(3) A2(4))")
	makes(t, "S = a a a A A; A = S b; A = c", []int{0, 0, 0}, 4, "a a a a a a c c b c", "S0(0 1 2 A1(S0(3 4 5 A2(6) A2(7)) 8) A2(9))")
}

// The tokens that count are those that stand there when a rule is replaced: ahead of it.
func TestSentenceMostAheadOfTheRule(t *testing.T) {
	makes(t, "S = S a; S = b", []int{0, 0, 0, 0}, 1, "b a a a a", "S0(S0(S0(S0(S1(0) 1) 2) 3) 4)")
	makes(t, "S = a S a; S = b", []int{0, 0, 0, 0}, 3, "a a a b a a a", "S0(0 S0(1 S0(2 S1(3) 4) 5) 6)")
	makes(t, "S = a S a; S = b", []int{0, 0, 0, 0}, 2, "a a b a a", "S0(0 S0(1 S1(2) 3) 4)")
}

func TestSentenceOfNothing(t *testing.T) {
	for _, prods := range [][]int{nil, {0}, {5}, {-1}} {
		for _, most := range []int{-1, 0, 1, many} {
			fails(t, "S; a", prods, most, api.ErrNone)
			fails(t, "S = A; A", prods, most, api.ErrNone)
			fails(t, "S = a a A; A", prods, most, api.ErrNone)
			fails(t, "S = a S", prods, most, api.ErrNone)
			fails(t, "S = S", prods, most, api.ErrNone)
			fails(t, "S = A; A = B; B = A; C = c", prods, most, api.ErrNone)
		}
	}
	// A rule that comes by a choice has no production, or none that derives anything, where the lowest is asked for.
	text := "S = b; S = A; S = N; A; N = N"
	makes(t, text, nil, many, "b", "S0(0)")
	makes(t, text, []int{0}, many, "b", "S0(0)")
	fails(t, text, []int{1}, many, api.ErrNone)
	fails(t, text, []int{1, 0}, many, api.ErrNone)
	fails(t, text, []int{2}, many, api.ErrNone)
	fails(t, text, []int{2, 0, 0, 0}, many, api.ErrNone)
	makes(t, text, []int{2, 0}, 0, "b", "S0(0)")
	// By choices a rule that derives nothing may be gone through, as long as one leads out of it.
	makes(t, "S = N; N = N; N = a", []int{0, 0, 0, 1}, many, "a", "S0(N1(N1(N2(0))))")
	fails(t, "S = a N; S = a; N = N", []int{0, 0}, many, api.ErrNone)
	fails(t, "S = a N; S = a; N = N", []int{0, 0}, 1, api.ErrNone)
	makes(t, "S = a N; S = a; N = N", []int{0, 0}, 0, "a", "S1(0)")
}

// doubling is a grammar whose start makes 2 to the power of n times what its last rule, whose productions follow, makes.
func doubling(n int, last ...[]int) api.Plain {
	g := api.Plain{Kinds: []string{"end", "error", "a"}, Precs: make([]api.Prec, 3)}
	for i := range n + 1 {
		g.Rules = append(g.Rules, "R"+strconv.Itoa(i))
	}
	for i := range n {
		g.Prods = append(g.Prods, api.Prod{Left: i, Right: []int{3 + i + 1, 3 + i + 1}})
	}
	for _, right := range last {
		g.Prods = append(g.Prods, api.Prod{Left: n, Right: right})
	}
	return g
}

// withStart gives a grammar a new start with that right side ahead of its other productions.
func withStart(g api.Plain, right ...int) api.Plain {
	g.Start = len(g.Rules)
	g.Rules = append(g.Rules, "Top"+strconv.Itoa(g.Start))
	g.Prods = append([]api.Prod{{Left: g.Start, Right: right}}, g.Prods...)
	return g
}

func isLimited(t *testing.T, what string, g api.Plain, prods []int, tokens int) {
	t.Helper()
	row, d, e := derive.Sentence(g, prods, math.MaxInt)
	if tokens < 0 {
		if e != api.ErrChart || len(row) > 0 || told(d) != told(api.Deriv{}) {
			t.Error(what, len(row), e)
		}
		return
	}
	if e != api.OK || len(row) != tokens || !derive.Check(g, d, row...) || !slices.Equal(derive.Yield(g, d), row) {
		t.Error(what, len(row), e)
	}
}

// Rows of just MaxToks tokens, and of one more.
func TestSentenceTokens(t *testing.T) {
	g := doubling(10, slices.Repeat([]int{2}, 64)) // 2^16 tokens, by less than 2^11 productions
	isLimited(t, "MaxToks", g, nil, api.MaxToks)
	isLimited(t, "one more", withStart(g, 3, 2), nil, -1)
	isLimited(t, "one more ahead", withStart(g, 2, 3), nil, -1)
	isLimited(t, "many more", doubling(16, slices.Repeat([]int{2}, 64)), nil, -1)
	list := read("S = a S; S = a") // as many productions as tokens
	isLimited(t, "a list, MaxToks", list, slices.Repeat([]int{0}, api.MaxToks-1), api.MaxToks)
	isLimited(t, "a list, one more", list, slices.Repeat([]int{0}, api.MaxToks), -1)
	long := read("S = a a S; S = a a; S = a")
	isLimited(t, "by choices", long, append(slices.Repeat([]int{0}, api.MaxToks/2-1), 1), api.MaxToks)
	isLimited(t, "by choices, one more", long, append(slices.Repeat([]int{0}, api.MaxToks/2), 2), -1)
	isLimited(t, "by choices, two more", long, append(slices.Repeat([]int{0}, api.MaxToks/2), 1), -1)
}

// Just MaxToks productions, and one more.
func TestSentenceProductions(t *testing.T) {
	g := doubling(15, nil) // 2^16 - 1 productions of nothing
	isLimited(t, "one less", g, nil, 0)
	isLimited(t, "MaxToks", withStart(g, 3), nil, 0)
	isLimited(t, "one more", withStart(withStart(g, 3), 3+16), nil, -1)
	isLimited(t, "many more", doubling(1000, nil), nil, -1)
	ring := read("S = S; S = a")
	isLimited(t, "a ring, MaxToks", ring, slices.Repeat([]int{0}, api.MaxToks-1), 1)
	isLimited(t, "a ring, one more", ring, slices.Repeat([]int{0}, api.MaxToks), -1)
	isLimited(t, "a ring, more", ring, slices.Repeat([]int{0}, 3*api.MaxToks), -1)
	// What comes ahead of the limit counts first: here a rule without productions, as the last that could be used and as one more.
	for _, n := range []int{api.MaxToks - 1, api.MaxToks} {
		none := read("S = S; S = N; N")
		prods := append(slices.Repeat([]int{0}, n-1), 1)
		if row, d, e := derive.Sentence(none, prods, math.MaxInt); e != api.ErrNone || len(row) > 0 || told(d) != told(api.Deriv{}) {
			t.Error(n, len(row), e)
		}
	}
}

func TestSentencesByChance(t *testing.T) {
	m := newMaker(606)
	var often [2]int
	for range 60000 {
		g := m.plain(1+m.Intn(6), 1+m.Intn(4), 1+m.Intn(4))
		prods, most := m.choices(m.Intn(20)), m.Intn(12)-2
		likeSentence(t, g, prods, most)
		if _, _, e := derive.Sentence(g, prods, most); e == api.OK {
			often[1]++
		} else {
			often[0]++
		}
	}
	if often[0] < 5000 || often[1] < 5000 {
		t.Error(often)
	}
}
