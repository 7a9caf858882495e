package pager_test

import (
	"testing"

	"quoin/api"
	"quoin/items"
	"quoin/pager"
)

// The chapter's Examples.

func known() api.Plain {
	return read("S = a A d; S = b B d; S = a B e; S = b A e; A = c; B = c")
}

// clash is a state and a kind at which more than one move can be made, as chapter 16 has them: to shift, and to reduce by each whole item with that Look.
type clash struct{ state, kind int }

func clashesOf(g api.Plain, a api.Auto) []clash {
	var l []clash
	for s, state := range a.States {
		for kind := range g.Kinds {
			moves := 0
			count(&moves, a.Next[s][kind] >= 0)
			for _, i := range state {
				count(&moves, i.Look == kind && i.Dot == len(wordRight(g, i.Prod)))
			}
			if moves > 1 {
				l = append(l, clash{s, kind})
			}
		}
	}
	return l
}

func TestExamples(t *testing.T) {
	g := known()
	one, e := items.Build(g)
	if e != api.OK || len(one.States) != 14 || len(clashesOf(g, one)) != 0 {
		t.Fatal(len(one.States), e)
	}
	a, e := pager.Build(g)
	if e != api.OK || len(a.States) != 14 || len(clashesOf(g, a)) != 0 || told(a) != told(one) {
		t.Error(len(a.States), e)
	}
	l, e := pager.Lalr(g)
	if e != api.OK || len(l.States) != 13 || len(clashesOf(g, l)) != 2 {
		t.Error(len(l.States), clashesOf(g, l), e)
	}
	for what, a := range map[string]api.Auto{"items": one, "Build": a, "Lalr": l} {
		if n := likeCores(t, g, a); n != 13 {
			t.Error(what, n)
		}
	}
	behindA := kernel([]int{4, 1, 5}, []int{5, 1, 6})
	behindB := kernel([]int{4, 1, 6}, []int{5, 1, 5})
	if is, e := pager.Weak(g, behindA, behindB); is || e != api.OK {
		t.Error(is, e)
	}
	if to, e := items.Go(g, a.States[a.Next[0][2]], 4); e != api.OK || told(to) != told(behindA) {
		t.Error(to, e)
	}
	if to, e := items.Go(g, a.States[a.Next[0][3]], 4); e != api.OK || told(to) != told(behindB) {
		t.Error(to, e)
	}
}

// Grammars of books, and how many states their canonical, merged and LALR automata have.
func TestKnownGrammars(t *testing.T) {
	for grammar, counts := range map[string][3]int{
		"S = C C; C = c C; C = d":                                  {10, 7, 7},
		"S = L e R; S = R; L = s R; L = i; R = L":                  {14, 10, 10},
		"E = E p T; E = T; T = T t F; T = F; F = o E c; F = i":     {22, 12, 12},
		"S = a A d; S = b B d; S = a B e; S = b A e; A = c; B = c": {14, 14, 13},
		"S = a A; S = b B; A = c A; A = d; B = c B; B = d":         {12, 12, 12},
		"S = a S a; S = b S b; S = c":                              {23, 9, 9},
	} {
		g := read(grammar)
		one, e := items.Build(g)
		if e != api.OK || len(one.States) != counts[0] {
			t.Error(grammar, len(one.States), e)
		}
		if a, _, is := likeBuild(t, g); !is || len(a.States) != counts[1] || len(clashesOf(g, a)) != 0 {
			t.Error(grammar, len(a.States))
		}
		if a, is := likeLalr(t, g); !is || len(a.States) != counts[2] {
			t.Error(grammar, len(a.States))
		}
	}
}
