package pager_test

import (
	"slices"
	"testing"

	"quoin/api"
	"quoin/derive"
	"quoin/items"
	"quoin/pager"
)

// What follows, P15.4 to P15.7.

// outcome is how a parse ends: the productions by which it reduced, which tell its tree, and how many kinds it took; whether it accepts, or makes too many moves.
type outcome struct {
	reduced           []int
	at                int
	isTaken, isTooFar bool
}

// parse goes by an automaton without clashes along a row.
func parse(g api.Plain, a api.Auto, row []int) outcome {
	row = append(slices.Clone(row), api.KindEnd)
	stack := []int{0}
	var o outcome
	for range 500 {
		s := stack[len(stack)-1]
		if to := a.Next[s][row[o.at]]; to >= 0 {
			stack = append(stack, to)
			o.at++
			continue
		}
		n := slices.IndexFunc(a.States[s], func(i api.Item) bool {
			return i.Look == row[o.at] && i.Dot == len(wordRight(g, i.Prod))
		})
		if n < 0 {
			return o
		}
		prod := a.States[s][n].Prod
		if prod == len(g.Prods) {
			o.isTaken = true
			return o
		}
		stack = stack[:len(stack)-len(g.Prods[prod].Right)]
		stack = append(stack, a.Next[stack[len(stack)-1]][len(g.Kinds)+g.Prods[prod].Left])
		o.reduced = append(o.reduced, prod)
	}
	o.isTooFar = true
	return o
}

// endsAlike tells whether two parses end alike: with the same tree, or at the same place, or one of them not at all.
func endsAlike(one, other outcome) bool {
	if one.isTooFar || other.isTooFar {
		return true
	}
	if one.isTaken != other.isTaken || one.at != other.at {
		return false
	}
	return !one.isTaken || slices.Equal(one.reduced, other.reduced)
}

// row is one that is derived, or one with something turned in it, or any.
func (m *maker) row(g api.Plain) []int {
	var choices []int
	for range m.Intn(10) {
		choices = append(choices, m.Intn(12))
	}
	row, _, e := derive.Sentence(g, choices, 12)
	if e != api.OK || m.Intn(8) == 0 {
		row = nil
		for range m.Intn(8) {
			row = append(row, 1+m.Intn(len(g.Kinds)-1))
		}
	}
	for range m.Intn(3) {
		at := m.Intn(len(row) + 1)
		switch kind := 1 + m.Intn(len(g.Kinds)-1); {
		case m.Intn(2) == 0:
			row = slices.Insert(row, at, kind)
		case at < len(row):
			row = slices.Delete(row, at, at+1)
		}
	}
	return row
}

// grammar is one of any of the kinds that a maker makes.
func (m *maker) grammar() api.Plain {
	switch m.Intn(4) {
	case 0:
		return m.plain(1+m.Intn(6), 1+m.Intn(3), 1+m.Intn(4))
	case 1:
		return m.contexts()
	default:
		return m.parting()
	}
}

// Where items' automaton has no clash, the merged one has none, and parses end alike.
func TestNothingIsBroken(t *testing.T) {
	m := newMaker(820)
	var often struct{ free, fewer, united, taken, not int }
	for range 8000 {
		g := m.grammar()
		one, eOne := items.Build(g)
		a, e := pager.Build(g)
		if eOne != api.OK || e != api.OK {
			t.Fatal(text(g), eOne, e)
		}
		if len(clashesOf(g, one)) > 0 {
			continue
		}
		if l := clashesOf(g, a); len(l) > 0 {
			t.Fatal(text(g), l)
		}
		often.free++
		count(&often.fewer, len(a.States) < len(one.States))
		if l, _ := pager.Lalr(g); len(clashesOf(g, l)) > 0 {
			often.united++ // it would be broken
		}
		for range 10 {
			row := m.row(g)
			o := parse(g, one, row)
			if merged := parse(g, a, row); !endsAlike(o, merged) {
				t.Fatal(text(g), row, o, merged)
			}
			count(&often.taken, o.isTaken)
			count(&often.not, !o.isTaken)
		}
	}
	if often.free < 1000 || often.fewer < 500 || often.united < 50 || often.taken < 3000 || often.not < 3000 {
		t.Errorf("%+v", often)
	}
}

// A grammar that is known to be broken where all states of one core are put together, and one in which states part again.
func TestKnownNotBroken(t *testing.T) {
	m := newMaker(821)
	for _, grammar := range []string{
		"S = a A d; S = b B d; S = a B e; S = b A e; A = c; B = c",
		"S = b A e; S = b B f; A = c B; A = c; B = c A; B = c",
		"S = X d; S = h X f; S = Y f; S = k Y d; X = a A; X = a B e; Y = b A g; Y = b B; A = c; B = c",
		"S = X e; S = m X f; S = Y g; S = n Y h; S = Z; X = a A; X = a B i; Y = b A j; Y = b B; Z = c A h; Z = c B f; A = d; B = d",
		"E = E p T; E = T; T = T t F; T = F; F = o E c; F = i",
	} {
		g := read(grammar)
		one, _ := items.Build(g)
		a, _ := pager.Build(g)
		if len(clashesOf(g, one)) > 0 || len(clashesOf(g, a)) > 0 {
			t.Error(grammar)
			continue
		}
		for range 500 {
			row := m.row(g)
			if o, merged := parse(g, one, row), parse(g, a, row); !endsAlike(o, merged) {
				t.Fatal(grammar, row, o, merged)
			}
		}
	}
}

// items.Right takes both automata; the LALR one has as many states as cores, the merged one as many at least, and items' one at least as many as that.
func TestBothAreRight(t *testing.T) {
	m := newMaker(822)
	var fewer, more int
	for range 4000 {
		g := m.grammar()
		a, e := pager.Build(g)
		l, eLalr := pager.Lalr(g)
		one, eOne := items.Build(g)
		if e != api.OK || eLalr != api.OK || eOne != api.OK {
			t.Fatal(text(g), e, eLalr, eOne)
		}
		if items.Right(g, a) != api.OK || items.Right(g, l) != api.OK {
			t.Fatal(text(g), items.Right(g, a), items.Right(g, l))
		}
		n, e := pager.Cores(g, a)
		if e != api.OK || n != len(l.States) || n > len(a.States) {
			t.Fatal(text(g), n, len(a.States), len(l.States))
		}
		for s := range a.States {
			if _, e := items.Path(a, s); e != api.OK {
				t.Fatal(text(g), s, e)
			}
		}
		count(&fewer, len(a.States) < len(one.States))
		count(&more, len(a.States) > n)
	}
	if fewer < 1000 || more < 100 {
		t.Error(fewer, more)
	}
}

// Weak hangs on no order of its two, nor on that of items, and each state is weakly compatible with itself; Unite hangs on none, either, and has what both have.
func TestPairsHaveNoOrder(t *testing.T) {
	m := newMaker(823)
	for range 6000 {
		g := m.plain(1+m.Intn(4), 1+m.Intn(4), 1+m.Intn(4))
		a, b := m.pair(g)
		is, e := pager.Weak(g, a, b)
		isToo, eToo := pager.Weak(g, b, a)
		again, eAgain := pager.Weak(g, m.shuffled(a), m.shuffled(b))
		if is != isToo || e != eToo || is != again || e != eAgain {
			t.Fatal(text(g), a, b, is, isToo, again, e, eToo, eAgain)
		}
		l, e := pager.Unite(g, a, b)
		lToo, eToo := pager.Unite(g, m.shuffled(b), a)
		if !slices.Equal(l, lToo) || e != eToo {
			t.Fatal(text(g), a, b, l, lToo, e, eToo)
		}
		for _, k := range [][]api.Item{a, b} {
			if is, e := pager.Weak(g, k, k); !is || e != api.OK {
				t.Fatal(text(g), k, is, e)
			}
		}
	}
}

// A kernel that another one has all of is weakly compatible with it; so are the states of an automaton with themselves.
func TestPartsAreWeak(t *testing.T) {
	m := newMaker(824)
	for range 500 {
		g := m.grammar()
		a, e := pager.Build(g)
		if e != api.OK {
			t.Fatal(text(g), e)
		}
		for _, state := range a.States {
			if is, e := pager.Weak(g, state, state); !is || e != api.OK {
				t.Fatal(text(g), state, e)
			}
			k, _ := items.Kernel(g, state)
			part := slices.Clone(k)
			for range m.Intn(len(k)) {
				at := m.Intn(len(part))
				if less := slices.Delete(slices.Clone(part), at, at+1); isSameCore(less, k) {
					part = less
				}
			}
			if is, e := pager.Weak(g, part, state); !is || e != api.OK {
				t.Fatal(text(g), part, state, e)
			}
			if l, e := pager.Unite(g, part, state); e != api.OK || !slices.Equal(l, state) {
				t.Fatal(text(g), part, state, e)
			}
		}
	}
}
