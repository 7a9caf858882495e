package items_test

import (
	"slices"
	"testing"

	"quoin/api"
	"quoin/items"
)

// J1: Closure, Go and Kernel.

// isClosure holds Closure of items at the lines of the state that is told, and at the words.
func isClosure(t *testing.T, g api.Plain, l []api.Item, wanted ...string) {
	t.Helper()
	got, e := items.Closure(g, l...)
	lines, eLines := items.Lines(g, got...)
	if e != api.OK || eLines != api.OK || !slices.Equal(lines, wanted) {
		t.Errorf("%s: %v: %q, %v", text(g), l, lines, e)
	}
	likeWords(t, g, l...)
}

// The Look comes from what stands behind the rule, from the item, or from both.
func TestLooks(t *testing.T) {
	g := read("S = A b; A = a")
	isClosure(t, g, state([3]int{2, 0, 0}), "S = . A b , end", "A = . a , b", "start = . S , end")
	isClosure(t, g, state([3]int{0, 0, 1}), "S = . A b , error", "A = . a , b")
	g = read("S = b A; A = a")
	isClosure(t, g, state([3]int{0, 1, 0}, [3]int{0, 1, 2}), "S = b . A , end", "S = b . A , a", "A = . a , end", "A = . a , a")
	g = read("S = A B; A = a; B =; B = b; B = c S")
	isClosure(t, g, state([3]int{0, 0, 0}), "S = . A B , end", "A = . a , end", "A = . a , b", "A = . a , c")
	isClosure(t, g, state([3]int{0, 0, 3}), "S = . A B , b", "A = . a , b", "A = . a , c")
	isClosure(t, g, state([3]int{0, 1, 3}), "S = A . B , b", "B = . , b", "B = . b , b", "B = . c S , b")
	g = read("S = A B C error; A = a; B =; B = b; C = B; C = c")
	isClosure(t, g, state([3]int{0, 0, 0}), "S = . A B C error , end", "A = . a , error", "A = . a , b", "A = . a , c")
	isClosure(t, g, state([3]int{0, 1, 0}), "S = A . B C error , end", "B = . , error", "B = . , b", "B = . , c", "B = . b , error", "B = . b , b", "B = . b , c")
	isClosure(t, g, state([3]int{0, 2, 0}), "S = A B . C error , end", "B = . , error", "B = . b , error", "C = . B , error", "C = . c , error")
	isClosure(t, g, state([3]int{0, 3, 0}), "S = A B C . error , end")
	isClosure(t, g, state([3]int{0, 4, 0}), "S = A B C error . , end")
}

// Rules that make nothing, that make themselves, ahead and behind.
func TestEmptyAndRings(t *testing.T) {
	isClosure(t, read("S =; a"), state([3]int{1, 0, 0}), "S = . , end", "start = . S , end")
	isClosure(t, read("S = S; a"), state([3]int{1, 0, 2}), "S = . S , a", "start = . S , a")
	isClosure(t, read("S = S; S = a"), state([3]int{2, 0, 0}), "S = . S , end", "S = . a , end", "start = . S , end")
	isClosure(t, read("S = S S; S ="), state([3]int{2, 0, 0}), "S = . S S , end", "S = . , end", "start = . S , end")
	isClosure(t, read("S = S S; S =; S = a"), state([3]int{3, 0, 0}), "S = . S S , end", "S = . S S , a", "S = . , end", "S = . , a", "S = . a , end", "S = . a , a", "start = . S , end")
	isClosure(t, read("S = A S; S = b; A ="), state([3]int{0, 0, 0}), "S = . A S , end", "A = . , b")
	isClosure(t, read("S = A S; S = b; A ="), state([3]int{0, 1, 0}), "S = . A S , end", "S = A . S , end", "S = . b , end", "A = . , b")
	isClosure(t, read("S = A B C; A =; B =; C =; c"), state([3]int{0, 0, 2}), "S = . A B C , c", "A = . , c")
	isClosure(t, read("S = A; A = B b; B = A; B = a"), state([3]int{4, 0, 0}), "S = . A , end", "A = . B b , end", "A = . B b , b", "B = . A , b", "B = . a , b", "start = . S , end")
}

// Rules that have no production, that make no row, and behind which no row begins.
func TestNothingBehind(t *testing.T) {
	isClosure(t, read("S = A; A"), state([3]int{1, 0, 0}), "S = . A , end", "start = . S , end")
	isClosure(t, read("S = A B; A = a; B"), state([3]int{0, 0, 0}), "S = . A B , end")
	isClosure(t, read("S = A B; A = a; B = B"), state([3]int{0, 0, 0}), "S = . A B , end")
	isClosure(t, read("S = A B; A = a; B = B; B = c B"), state([3]int{0, 0, 0}), "S = . A B , end", "A = . a , c")
	isClosure(t, read("S = a; A = S b"), state([3]int{1, 0, 0}), "S = . a , b", "A = . S b , end")
	isClosure(t, read("S = a; A = A a"), state([3]int{2, 0, 0}), "S = . a , end", "start = . S , end")
}

// Of an item with the point ahead of all its production alone is there, if no item asks for the rule.
func TestOneProduction(t *testing.T) {
	g := read("S = A; A = a; A = b; A = A c")
	isClosure(t, g, state([3]int{1, 0, 0}), "A = . a , end")
	isClosure(t, g, state([3]int{3, 0, 1}), "A = . a , c", "A = . b , c", "A = . A c , error", "A = . A c , c")
	isClosure(t, g, state([3]int{2, 0, 4}, [3]int{3, 1, 0}, [3]int{1, 1, 3}), "A = a . , b", "A = . b , c", "A = A . c , end")
	isClosure(t, g, state([3]int{4, 0, 1}, [3]int{4, 1, 3}), "S = . A , error", "A = . a , error", "A = . a , c", "A = . b , error", "A = . b , c", "A = . A c , error", "A = . A c , c", "start = . S , error", "start = S . , b")
}

// Looks that come to a rule when it was gone on from already, by rings that run against the rules' numbers and with them.
func TestLateLooks(t *testing.T) {
	for _, g := range []api.Plain{
		read("S = A a; A = B; A = b; B = C; B = A c; C = A; C = S d; C = B e"),
		read("S = C a; C = B; C = b; B = A; B = C c; A = C; A = S d; A = B e"),
		read("S = D; S = S a; D = C; D = D b; C = B; C = C c; B = A; B = B d; A = S e; A = a"),
	} {
		for prod := range len(g.Prods) + 1 {
			for look := range g.Kinds {
				likeWords(t, g, api.Item{Prod: prod, Look: look})
			}
		}
	}
}

// goes holds Go, by a symbol's name, at the lines of the state that is told, and at the words.
func goes(t *testing.T, g api.Plain, l []api.Item, symbol string, wanted ...string) {
	t.Helper()
	got, e := items.Go(g, l, symbols(g, symbol)[0])
	lines, eLines := items.Lines(g, got...)
	if e != api.OK || eLines != api.OK || !slices.Equal(lines, wanted) {
		t.Errorf("%s: %v by %s: %q, %v", text(g), l, symbol, lines, e)
	}
	likeWords(t, g, l...)
}

func TestGo(t *testing.T) {
	g := read("S = a A; S = a b; S = error; A = S; A = A c")
	first := wordsOf(g).closure(startItem(g))
	goes(t, g, first, "a", "S = . a A , end", "S = . a A , c", "S = a . A , end", "S = . a b , end", "S = . a b , c", "S = a . b , end", "S = . error , end", "S = . error , c", "A = . S , end", "A = . S , c", "A = . A c , end", "A = . A c , c")
	goes(t, g, first, "error", "S = error . , end")
	goes(t, g, first, "S", "start = S . , end")
	goes(t, g, first, "b")
	goes(t, g, first, "A")
	goes(t, g, state([3]int{0, 1, 2}, [3]int{4, 0, 3}), "A", "S = a A . , a", "A = A . c , b")
	goes(t, g, state([3]int{0, 2, 2}, [3]int{5, 1, 0}), "A")
	goes(t, g, nil, "a")
}

// Items are gone on from as they are: what a state would have besides, if it were closed, goes nowhere.
func TestGoFromWhatIsNotClosed(t *testing.T) {
	g := read("S = A b; A = a; A = S")
	l := state([3]int{0, 0, 0})
	goes(t, g, l, "A", "S = A . b , end")
	goes(t, g, l, "a")
	goes(t, g, l, "S")
	goes(t, g, wordsOf(g).closure(l...), "a", "A = a . , b")
	goes(t, g, state([3]int{2, 0, 2}), "S", "A = S . , a")
	goes(t, g, state([3]int{2, 0, 2}), "A")
	goes(t, g, state([3]int{3, 0, 0}), "S", "start = S . , end")
	goes(t, g, state([3]int{3, 1, 0}), "S")
}

// kernelIs holds Kernel at the lines of its items.
func kernelIs(t *testing.T, g api.Plain, l []api.Item, wanted ...string) {
	t.Helper()
	got, e := items.Kernel(g, l)
	lines, eLines := items.Lines(g, got...)
	if e != api.OK || eLines != api.OK || !slices.Equal(lines, wanted) {
		t.Errorf("%s: %v: %q, %v", text(g), l, lines, e)
	}
	likeWords(t, g, l...)
}

func TestKernel(t *testing.T) {
	g := read("S = A b; A = a; A =")
	kernelIs(t, g, state([3]int{3, 0, 0}), "start = . S , end")
	kernelIs(t, g, state([3]int{3, 0, 2}, [3]int{3, 1, 1}, [3]int{3, 0, 2}), "start = . S , a", "start = S . , error")
	kernelIs(t, g, state([3]int{0, 0, 0}))
	kernelIs(t, g, state([3]int{2, 0, 0}, [3]int{1, 0, 3}))
	kernelIs(t, g, state([3]int{1, 1, 3}, [3]int{1, 0, 3}, [3]int{0, 2, 0}, [3]int{1, 1, 0}, [3]int{0, 1, 1}, [3]int{0, 2, 0}, [3]int{2, 0, 0}), "S = A . b , error", "S = A b . , end", "A = a . , end", "A = a . , b")
	kernelIs(t, g, wordsOf(g).closure(startItem(g)), "start = . S , end")
	kernelIs(t, read("S"), state([3]int{0, 1, 1}, [3]int{0, 0, 0}), "start = . S , end", "start = S . , error")
}

func TestItemsByChance(t *testing.T) {
	m := newMaker(701)
	for range 20000 {
		g := m.plain(1+m.Intn(6), 1+m.Intn(4), 1+m.Intn(5))
		likeWords(t, g, m.items(g, 1+m.Intn(6))...)
	}
}

// Many rules and kinds, so that sets of Looks are large.
func TestManyLooks(t *testing.T) {
	m := newMaker(702)
	for range 300 {
		g := m.plain(20, 3, 4)
		for n := range 130 {
			g.Kinds, g.Precs = append(g.Kinds, "k"+told(n)), append(g.Precs, api.Prec{})
		}
		kinds := len(g.Kinds) - 130
		for i, p := range g.Prods { // what were rules is moved behind the new kinds
			for k, x := range p.Right {
				if x >= kinds {
					g.Prods[i].Right[k] = x + 130
				} else if m.Intn(2) == 0 {
					g.Prods[i].Right[k] = kinds + m.Intn(130)
				}
			}
		}
		for range 3 {
			l := m.items(g, 3)
			if w := wordsOf(g); len(w.closure(l...)) < 400 {
				if got, e := items.Closure(g, l...); e != api.OK || !slices.Equal(got, w.closure(l...)) {
					t.Fatal(text(g), l, got, e)
				}
			}
		}
	}
}
