package pager_test

import (
	"slices"
	"strings"
	"testing"

	"quoin/api"
	"quoin/items"
	"quoin/pager"
)

// P15.2: Build. (Its limits stand with the others.)

// kernels are those of an automaton's states: each by its lines, with `; ` between.
func kernels(t *testing.T, g api.Plain, a api.Auto) []string {
	t.Helper()
	var l []string
	for _, state := range a.States {
		k, e := items.Kernel(g, state)
		lines, eLines := items.Lines(g, k...)
		if e != api.OK || eLines != api.OK {
			t.Fatal(text(g), state, e, eLines)
		}
		l = append(l, strings.Join(lines, "; "))
	}
	return l
}

// isMerged holds Build at the kernels that are told, and at the words.
func isMerged(t *testing.T, g api.Plain, wanted ...string) events {
	t.Helper()
	a, ev, is := likeBuild(t, g)
	if got := kernels(t, g, a); !is || !slices.Equal(got, wanted) {
		t.Errorf("%s:\n%s", text(g), strings.Join(got, "\n"))
	}
	return ev
}

// wayTo is a state of an automaton, by the names of symbols.
func wayTo(g api.Plain, a api.Auto, row string) int {
	at := 0
	for _, x := range symbols(g, row) {
		at = a.Next[at][x]
	}
	return at
}

func TestBuildOfFewStates(t *testing.T) {
	isMerged(t, read("S; a"), "start = . S , end", "start = S . , end")
	isMerged(t, read("S =; a"), "start = . S , end", "start = S . , end")
	isMerged(t, read("S = S"), "start = . S , end", "S = S . , end; start = S . , end")
	isMerged(t, read("S = error A; A = a; A"), "start = . S , end", "S = error . A , end", "start = S . , end", "A = a . , end", "S = error A . , end")
}

// States of one core are put together: with another one, and with the one that is done.
func TestStatesTogether(t *testing.T) {
	ev := isMerged(t, read("S = A a; S = b A b; A = c"),
		"start = . S , end", "S = b . A b , end", "A = c . , a; A = c . , b", "start = S . , end", "S = A . a , end", "S = b A . b , end", "S = A a . , end", "S = b A b . , end")
	if ev.into != 1 || ev.itself != 0 {
		t.Error(ev)
	}
	ev = isMerged(t, read("S = c S d; S = c"),
		"start = . S , end", "S = c . S d , end; S = c . S d , d; S = c . , end; S = c . , d", "start = S . , end", "S = c S . d , end; S = c S . d , d", "S = c S d . , end; S = c S d . , d")
	if ev.itself != 1 || ev.stays == 0 {
		t.Error(ev)
	}
}

// States of one core that are not put together: two, of which each gets what the other would not take; the third fits one of them.
func TestStatesApart(t *testing.T) {
	g := read("S = b A e; S = b B f; A = c B; A = c; B = c A; B = c")
	isMerged(t, g,
		"start = . S , end", "S = b . A e , end; S = b . B f , end", "start = S . , end",
		"A = c . B , e; A = c . , e; B = c . A , f; B = c . , f", "S = b A . e , end", "S = b B . f , end",
		"A = c . B , f; A = c . , f; B = c . A , e; B = c . , e", "B = c A . , e; B = c A . , f", "A = c B . , e; A = c B . , f",
		"S = b A e . , end", "S = b B f . , end")
	g = read("S = a A d; S = a B e; S = b A e; S = b B d; S = c A f; S = c B d; S = d A d; S = d B e; A = i; B = i")
	a, _, is := likeBuild(t, g)
	if !is || wayTo(g, a, "a i") == wayTo(g, a, "b i") || wayTo(g, a, "c i") != wayTo(g, a, "b i") || wayTo(g, a, "d i") != wayTo(g, a, "a i") {
		t.Error(text(g), a)
	}
}

// Of several that fit, the one with the least number is taken: though another one has all already.
func TestFirstThatFits(t *testing.T) {
	g := read("S = a A d; S = a B e; S = b A e; S = b B f; S = c A f; S = c B g; S = d A f; S = d B g; A = i; B = i")
	a, _, is := likeBuild(t, g)
	if !is {
		t.Fatal(text(g))
	}
	first, second := wayTo(g, a, "a i"), wayTo(g, a, "b i")
	if first == second || wayTo(g, a, "c i") != first || wayTo(g, a, "d i") != first {
		t.Error(first, second, wayTo(g, a, "c i"), wayTo(g, a, "d i"))
	}
	if k := kernels(t, g, a); k[first] != "A = i . , d; A = i . , f; B = i . , e; B = i . , g" || k[second] != "A = i . , e; B = i . , f" {
		t.Error(k[first], k[second])
	}
}

// A state that gets more after it was gone on from is done again, and so is what it leads to.
func TestStatesAgain(t *testing.T) {
	ev := isMerged(t, read("S = a A; S = c B; A = c A B; A = c; B = c"),
		"start = . S , end", "S = a . A , end", "S = c . B , end", "start = S . , end",
		"A = c . A B , end; A = c . A B , c; A = c . , end; A = c . , c", "S = a A . , end", "B = c . , end; B = c . , c", "S = c B . , end",
		"A = c A . B , end; A = c A . B , c", "A = c A B . , end; A = c A B . , c")
	if ev.itself+ev.again == 0 {
		t.Error(ev)
	}
	g := read("S = k X f; S = X e; X = a Y; Y = b Z; Z = c")
	a, ev, is := likeBuild(t, g)
	if k := kernels(t, g, a); !is || ev.late == 0 || k[wayTo(g, a, "a b c")] != "Z = c . , e; Z = c . , f" || k[wayTo(g, a, "a Y")] != "X = a Y . , e; X = a Y . , f" || wayTo(g, a, "k a") != wayTo(g, a, "a") {
		t.Error(k, ev)
	}
}

// What a state has got lets it go on to another one than until now: a new one.
func TestStatesPart(t *testing.T) {
	g := read("S = X d; S = h X f; S = Y f; X = a A; X = a B e; Y = b A g; Y = b B; A = c; B = c")
	a, ev, is := likeBuild(t, g)
	if !is || ev.news != 1 || ev.left != 0 || len(a.States) != 19 {
		t.Fatal(ev, len(a.States))
	}
	k := kernels(t, g, a)
	if one := k[wayTo(g, a, "a c")]; one != "A = c . , d; A = c . , f; B = c . , e" {
		t.Error(one)
	}
	if other := k[wayTo(g, a, "b c")]; other != "A = c . , d; A = c . , g; B = c . , e; B = c . , f" { // it keeps what it got of the one that parted
		t.Error(other)
	}
}

// It goes on to one that was there, if that fits.
func TestStatesPartToOthers(t *testing.T) {
	g := read("S = X e; S = m X f; S = Y g; S = n Y h; S = Z; X = a A; X = a B i; Y = b A j; Y = b B; Z = c A h; Z = c B f; A = d; B = d")
	a, ev, is := likeBuild(t, g)
	if !is || ev.news != 1 || ev.others != 1 || ev.left != 0 || wayTo(g, a, "a d") != wayTo(g, a, "b d") || wayTo(g, a, "a d") == wayTo(g, a, "c d") {
		t.Error(ev, a.Next)
	}
}

// The state from which two parted is left out, and the others are numbered as if it had never been.
func TestStatesLeft(t *testing.T) {
	g := read("S = X d; S = h X f; S = Y f; S = k Y d; X = a A; X = a B e; Y = b A g; Y = b B; A = c; B = c")
	ev := isMerged(t, g,
		"start = . S , end",
		"X = a . A , d; X = a . A , f; X = a . B e , d; X = a . B e , f",
		"Y = b . A g , d; Y = b . A g , f; Y = b . B , d; Y = b . B , f",
		"S = h . X f , end", "S = k . Y d , end", "start = S . , end", "S = X . d , end", "S = Y . f , end",
		"A = c . , d; A = c . , f; B = c . , e",
		"X = a A . , d; X = a A . , f", "X = a B . e , d; X = a B . e , f",
		"A = c . , g; B = c . , d; B = c . , f",
		"Y = b A . g , d; Y = b A . g , f", "Y = b B . , d; Y = b B . , f",
		"S = h X . f , end", "S = k Y . d , end", "S = X d . , end", "S = Y f . , end",
		"X = a B e . , d; X = a B e . , f", "Y = b A g . , d; Y = b A g . , f", "S = h X f . , end", "S = k Y d . , end")
	if ev.left != 1 || ev.news != 2 || ev.made != 23 {
		t.Error(ev)
	}
}

// What is left out leads on, too: what is reached by it alone is left out with it.
func TestStatesLeftWithOthers(t *testing.T) {
	g := read("S = X d; S = h X f; S = Y f; S = k Y d; X = a A; X = a B e; Y = b A g; Y = b B; A = c C; B = c D; C = c; D = c")
	a, ev, is := likeBuild(t, g)
	if !is || ev.left < 2 || items.Right(g, a) != api.OK {
		t.Error(ev)
	}
}

// A state that gets more as it is gone on from itself goes on by its further symbols as it was when it was closed: what it leads to then keeps that, though it parts from it when it is done again.
func TestStatesAsTheyWere(t *testing.T) {
	g := read("S = a Y; S = c c X f; Y = P j; Y = Q e; X = b X e; X = P; X = Q i; P = b d; Q = b d")
	a, ev, is := likeBuild(t, g)
	if !is || ev.itself != 1 || ev.news != 1 {
		t.Fatal(text(g), ev)
	}
	k := kernels(t, g, a)
	if one := k[wayTo(g, a, "a b d")]; one != "P = b d . , f; P = b d . , j; Q = b d . , e; Q = b d . , i" {
		t.Error(one)
	}
	if other := k[wayTo(g, a, "c c b d")]; other != "P = b d . , e; P = b d . , f; Q = b d . , i" {
		t.Error(other)
	}
}

func TestBuildOfStarts(t *testing.T) {
	g := read("S = A b; A = a S a; A = b; B = B b; B = A S")
	for start := range g.Rules {
		g.Start = start
		likeBuild(t, g)
		likeLalr(t, g)
	}
}

// smallProds are all right sides of at most two of the symbols.
func smallProds(symbols ...int) [][]int {
	l := [][]int{nil}
	for _, x := range symbols {
		l = append(l, []int{x})
		for _, y := range symbols {
			l = append(l, []int{x, y})
		}
	}
	return l
}

// upToTwo are all lists of at most two of them, in one order.
func upToTwo(l [][]int) [][][]int {
	made := [][][]int{nil}
	for i, x := range l {
		made = append(made, [][]int{x})
		for _, y := range l[:i+1] {
			made = append(made, [][]int{x, y})
		}
	}
	return made
}

// All grammars of two rules and one kind, with at most two productions a rule of at most two symbols.
func TestAllSmallGrammars(t *testing.T) {
	choices := upToTwo(smallProds(2, 3, 4))
	for _, one := range choices {
		for _, other := range choices {
			g := read("S A = ; a")
			g.Rules, g.Prods = []string{"S", "A"}, nil
			for _, r := range one {
				g.Prods = append(g.Prods, api.Prod{Left: 0, Right: r})
			}
			for _, r := range other {
				g.Prods = append(g.Prods, api.Prod{Left: 1, Right: r})
			}
			a, _, is := likeBuild(t, g)
			l, isToo := likeLalr(t, g)
			if !is || !isToo || items.Right(g, a) != api.OK || items.Right(g, l) != api.OK {
				t.Fatal(text(g), len(a.States), len(l.States))
			}
		}
	}
}

func TestBuildByChance(t *testing.T) {
	m := newMaker(802)
	var all events
	for n := range 12000 {
		var g api.Plain
		switch n % 4 {
		case 0:
			g = m.plain(1+m.Intn(6), 1+m.Intn(3), 1+m.Intn(4))
		case 1:
			g = m.contexts()
		default:
			g = m.parting()
		}
		_, ev, _ := likeBuild(t, g)
		all.into += ev.into
		all.again += ev.again
		all.stays += ev.stays
		all.others += ev.others
		all.news += ev.news
		all.itself += ev.itself
		all.left += ev.left
		all.late += ev.late
	}
	if all.into < 1000 || all.again < 500 || all.stays < 500 || all.others < 5 || all.news < 100 || all.itself < 300 || all.left < 5 || all.late < 300 {
		t.Errorf("%+v", all)
	}
}

// Build hangs on the grammar alone: not on levels, actions, or names.
func TestBuildOfTheSame(t *testing.T) {
	m := newMaker(803)
	for range 300 {
		g := m.contexts()
		a, e := pager.Build(g)
		other := clone(g)
		for kind := range g.Kinds[2:] {
			other.Kinds[2+kind] += "x"
			other.Precs[2+kind] = api.Prec{Level: 1 + m.Intn(3), Assoc: api.AssocLeft}
		}
		for p := range g.Prods {
			other.Prods[p].Level = m.Intn(4)
			other.Prods[p].Act = api.Act{Kind: api.ActText, Name: "t"}
		}
		if b, eToo := pager.Build(other); e != api.OK || eToo != api.OK || told(a) != told(b) {
			t.Fatal(text(g), e, eToo)
		}
	}
}
