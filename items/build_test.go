package items_test

import (
	"slices"
	"strings"
	"testing"

	"quoin/api"
	"quoin/items"
)

// J2: Build. (Its limits stand with the others.)

// isBuilt holds Build at the states that are told, each by its lines with `; ` between, and where it leads: a state, a symbol's name and a state, each. It is held against the words, too.
func isBuilt(t *testing.T, g api.Plain, states []string, ways ...string) {
	t.Helper()
	a, is := likeBuild(t, g)
	if !is || len(a.States) != len(states) {
		t.Fatal(text(g), len(a.States))
	}
	for s, l := range a.States {
		if got, e := items.Lines(g, l...); e != api.OK || strings.Join(got, "; ") != states[s] {
			t.Errorf("%s: %d: %q", text(g), s, strings.Join(got, "; "))
		}
	}
	var got []string
	for s, row := range a.Next {
		for x, to := range row {
			if to != -1 {
				got = append(got, told(s)+" "+slices.Concat(g.Kinds, g.Rules)[x]+" "+told(to))
			}
		}
	}
	if !slices.Equal(got, ways) {
		t.Errorf("%s: %q", text(g), got)
	}
}

func TestBuildOfFewStates(t *testing.T) {
	isBuilt(t, read("S; a"), []string{"start = . S , end", "start = S . , end"}, "0 S 1")
	isBuilt(t, read("S =; a"), []string{"S = . , end; start = . S , end", "start = S . , end"}, "0 S 1")
	isBuilt(t, read("S = S"), []string{"S = . S , end; start = . S , end", "S = S . , end; start = S . , end"}, "0 S 1")
	isBuilt(t, read("S = error"), []string{"S = . error , end; start = . S , end", "S = error . , end", "start = S . , end"}, "0 error 1", "0 S 2")
	isBuilt(t, read("S = a A; A = a; A"), []string{"S = . a A , end; start = . S , end", "S = a . A , end; A = . a , end", "start = S . , end", "A = a . , end", "S = a A . , end"}, "0 a 1", "0 S 2", "1 a 3", "1 A 4")
	isBuilt(t, read("S = A a; A"), []string{"S = . A a , end; start = . S , end", "start = S . , end", "S = A . a , end", "S = A a . , end"}, "0 S 1", "0 A 2", "2 a 3")
}

// States are numbered as they are first met: by the symbols of the first state, then by those of the next ones, kinds ahead of rules.
func TestOrderOfStates(t *testing.T) {
	isBuilt(t, read("S = b; S = a c; S = B d; B = e"), []string{
		"S = . b , end; S = . a c , end; S = . B d , end; B = . e , d; start = . S , end",
		"S = a . c , end", "S = b . , end", "B = e . , d", "start = S . , end", "S = B . d , end", "S = a c . , end", "S = B d . , end",
	}, "0 a 1", "0 b 2", "0 e 3", "0 S 4", "0 B 5", "1 c 6", "5 d 7")
	isBuilt(t, read("S = d A; S = c A; A = b"), []string{
		"S = . d A , end; S = . c A , end; start = . S , end",
		"S = c . A , end; A = . b , end", "S = d . A , end; A = . b , end", "start = S . , end", "A = b . , end", "S = c A . , end", "S = d A . , end",
	}, "0 c 1", "0 d 2", "0 S 3", "1 b 4", "1 A 5", "2 b 4", "2 A 6")
}

// States that are met again: by two ways, by themselves, by later ones.
func TestStatesAgain(t *testing.T) {
	isBuilt(t, read("S = a S; S = b"), []string{
		"S = . a S , end; S = . b , end; start = . S , end",
		"S = . a S , end; S = a . S , end; S = . b , end", "S = b . , end", "start = S . , end", "S = a S . , end",
	}, "0 a 1", "0 b 2", "0 S 3", "1 a 1", "1 b 2", "1 S 4")
	isBuilt(t, read("S = a A b; A = a A; A ="), []string{
		"S = . a A b , end; start = . S , end", "S = a . A b , end; A = . a A , b; A = . , b", "start = S . , end",
		"A = . a A , b; A = a . A , b; A = . , b", "S = a A . b , end", "A = a A . , b", "S = a A b . , end",
	}, "0 a 1", "0 S 2", "1 a 3", "1 A 4", "3 a 3", "3 A 5", "4 b 6")
}

// States of one core with other Looks are others.
func TestStatesOfOneCore(t *testing.T) {
	isBuilt(t, read("S = A a; S = b A b; A = c"), []string{
		"S = . A a , end; S = . b A b , end; A = . c , a; start = . S , end",
		"S = b . A b , end; A = . c , b", "A = c . , a", "start = S . , end", "S = A . a , end", "A = c . , b", "S = b A . b , end", "S = A a . , end", "S = b A b . , end",
	}, "0 b 1", "0 c 2", "0 S 3", "0 A 4", "1 c 5", "1 A 6", "4 a 7", "6 b 8")
}

// Productions that are alike are several items.
func TestLikeProductions(t *testing.T) {
	g := read("S = a; S = a; a")
	a, e := items.Build(g)
	if e != api.OK || len(a.States) != 3 || !slices.Equal(a.States[1], state([3]int{0, 1, 0}, [3]int{1, 1, 0})) {
		t.Error(a, e)
	}
	likeBuild(t, g)
}

// Another start than the first rule; rules that are not reached.
func TestBuildOfStarts(t *testing.T) {
	g := read("S = A b; A = a; A = S; B = B b")
	for start := range g.Rules {
		g.Start = start
		likeBuild(t, g)
	}
}

// The examples of chapter 15: how many states there are.
func TestKnownGrammars(t *testing.T) {
	for grammar, count := range map[string]int{
		"S = a A d; S = b B d; S = a B e; S = b A e; A = c; B = c": 14,
		"S = C C; C = c C; C = d":                                  10, // the dragon book's
		"S = L e R; S = R; L = s R; L = i; R = L":                  14,
		"E = E p T; E = T; T = T t F; T = F; F = o E c; F = i":     22,
	} {
		if a, is := likeBuild(t, read(grammar)); !is || len(a.States) != count {
			t.Error(grammar, len(a.States))
		}
	}
}

// smallProds are all right sides of at most two of the symbols.
func smallProds(symbols ...int) [][]int {
	l := [][]int{nil}
	for _, x := range symbols {
		l = append(l, []int{x})
		for _, y := range symbols {
			l = append(l, []int{x, y})
		}
	}
	return l
}

// upToTwo are all lists of at most two of them, in one order.
func upToTwo(l [][]int) [][][]int {
	made := [][][]int{nil}
	for i, x := range l {
		made = append(made, [][]int{x})
		for _, y := range l[:i+1] {
			made = append(made, [][]int{x, y})
		}
	}
	return made
}

// All grammars of two rules and one kind, with at most two productions a rule of at most two symbols.
func TestAllSmallGrammars(t *testing.T) {
	choices := upToTwo(smallProds(2, 3, 4))
	for _, one := range choices {
		for _, other := range choices {
			g := read("S A = ; a")
			g.Rules, g.Prods = []string{"S", "A"}, nil
			for _, r := range one {
				g.Prods = append(g.Prods, api.Prod{Left: 0, Right: r})
			}
			for _, r := range other {
				g.Prods = append(g.Prods, api.Prod{Left: 1, Right: r})
			}
			if a, is := likeBuild(t, g); !is || items.Right(g, a) != api.OK {
				t.Fatal(text(g), len(a.States))
			}
		}
	}
}

func TestBuildByChance(t *testing.T) {
	m := newMaker(703)
	var often [3]int
	for range 20000 {
		g := m.plain(1+m.Intn(6), 1+m.Intn(3), 1+m.Intn(4))
		a, is := likeBuild(t, g)
		switch {
		case !is:
		case len(a.States) > 20:
			often[2]++
		case len(a.States) > 5:
			often[1]++
		default:
			often[0]++
		}
	}
	if often[0] < 1000 || often[1] < 1000 || often[2] < 200 {
		t.Error(often)
	}
}
