package states_test

import (
	"maps"
	"slices"
	"testing"

	"quoin/api"
	"quoin/states"
	"quoin/work"
)

// The grammar of the tests: S = A b A (0); A = a (1); A = (2); B = B c (3), with the kinds a, b, c: 2, 3, 4, and the rules S, A, B, C: 5 to 8; the start's production is 4.
func plain() api.Plain {
	return api.Plain{
		Kinds: []string{"end", "error", "a", "b", "c"},
		Precs: make([]api.Prec, 5),
		Rules: []string{"S", "A", "B", "C"},
		Prods: []api.Prod{{Right: []int{6, 3, 6}}, {Left: 1, Right: []int{2}}, {Left: 1}, {Left: 2, Right: []int{7, 4}}},
	}
}

func item(prod, dot, look int) api.Item { return api.Item{Prod: prod, Dot: dot, Look: look} }

func made(t *testing.T) *states.Grammar {
	t.Helper()
	g, e := states.NewGrammar(plain())
	if e != api.OK {
		t.Fatal(e)
	}
	return g
}

func TestGrammar(t *testing.T) {
	g := made(t)
	if g.StartItem() != item(4, 0, 0) || !slices.Equal(g.Right(4), []int{5}) || !slices.Equal(g.Right(0), []int{6, 3, 6}) || g.Symbols() != 9 {
		t.Error(g.StartItem(), g.Right(4), g.Right(0), g.Symbols())
	}
	if rule, is := g.Rule(4); rule != 0 || is {
		t.Error(rule, is)
	}
	if rule, is := g.Rule(6); rule != 1 || !is {
		t.Error(rule, is)
	}
}

func TestWrong(t *testing.T) {
	good := []api.Item{item(4, 1, 0), item(0, 3, 4)}
	if _, e := states.NewGrammar(plain(), good, nil, good); e != api.OK {
		t.Error(e)
	}
	for _, bad := range []api.Item{item(-1, 0, 0), item(5, 0, 0), item(0, 4, 0), item(4, 2, 0), item(0, -1, 0), item(0, 0, 5), item(0, 0, -1)} {
		for _, lists := range [][][]api.Item{{{bad}}, {good, {bad}}, {append(slices.Clone(good), bad), good}} {
			if g, e := states.NewGrammar(plain(), lists...); g != nil || e != api.ErrItem {
				t.Error(bad, e)
			}
		}
	}
	g := plain()
	g.Start = 4
	if m, e := states.NewGrammar(g, []api.Item{item(-1, 0, 0)}); m != nil || e != api.ErrPlain {
		t.Error(e)
	}
}

func TestOrders(t *testing.T) {
	l := []api.Item{item(4, 0, 0), item(0, 1, 3), item(0, 1, 2), item(4, 0, 0), item(0, 0, 4), item(1, 0, 1)}
	kept := slices.Clone(l)
	in := states.InOrder(l)
	if !slices.Equal(in, []api.Item{item(0, 0, 4), item(0, 1, 2), item(0, 1, 3), item(1, 0, 1), item(4, 0, 0)}) || !slices.Equal(l, kept) {
		t.Error(in, l)
	}
	k := made(t).Kernel(in)
	if !slices.Equal(k, []api.Item{item(0, 1, 2), item(0, 1, 3), item(4, 0, 0)}) {
		t.Error(k)
	}
	if core := states.Core(k); !slices.Equal(core, []states.Spot{{Prod: 0, Dot: 1}, {Prod: 4}}) {
		t.Error(core)
	}
	if states.Compare(item(0, 1, 2), item(0, 1, 2)) != 0 || states.Compare(item(0, 9, 9), item(1, 0, 0)) >= 0 || states.Compare(item(0, 1, 0), item(0, 0, 9)) <= 0 {
		t.Error("Compare")
	}
}

func TestClosure(t *testing.T) {
	c := states.NewCloser(made(t))
	for _, one := range [][2][]api.Item{
		{nil, nil},
		{{item(4, 0, 0)}, {item(0, 0, 0), item(1, 0, 3), item(2, 0, 3), item(4, 0, 0)}},
		{{item(0, 2, 0), item(0, 2, 4)}, {item(0, 2, 0), item(0, 2, 4), item(1, 0, 0), item(1, 0, 4), item(2, 0, 0), item(2, 0, 4)}},
		{{item(3, 0, 1)}, {item(3, 0, 1), item(3, 0, 4)}},
		{{item(0, 3, 1)}, {item(0, 3, 1)}},
	} {
		if l, e := c.Closure(one[0]); e != api.OK || !slices.Equal(l, one[1]) {
			t.Error(one, l, e)
		}
	}
}

// By hand: what was laid is closed, and closed again when more is laid.
func TestClosing(t *testing.T) {
	s := states.NewCloser(made(t)).Begin()
	if !s.Close() || s.Count() != 0 || len(s.With(nil)) != 0 {
		t.Error("an empty one:", s.Count())
	}
	looks, _ := work.NewSet(0, 4)
	s.Lay(states.Spot{Prod: 0, Dot: 1}, looks) // ahead of a kind
	s.Lay(states.Spot{Prod: 0, Dot: 3}, looks) // whole
	s.Lay(states.Spot{Prod: 0, Dot: 2}, looks)
	if !s.Close() || s.Count() != 4 {
		t.Error(s.Count())
	}
	if l := s.With([]api.Item{item(0, 2, 0)}); !slices.Equal(l, []api.Item{item(0, 2, 0), item(1, 0, 0), item(1, 0, 4), item(2, 0, 0), item(2, 0, 4)}) {
		t.Error(l)
	}
	other, _ := work.NewSet(1)
	s.Lay(states.Spot{Prod: 0, Dot: 2}, other)
	if !s.Close() || s.Count() != 6 || !slices.Equal(looks.All(), []int{0, 4}) {
		t.Error(s.Count(), looks.All())
	}
	spots := maps.Collect(s.Ahead)
	if len(spots) != 2 || !slices.Equal(spots[states.Spot{Prod: 2}].All(), []int{0, 1, 4}) {
		t.Error(spots)
	}
	for range s.Ahead { // it may be left
		break
	}
}
