package items_test

import (
	"math"
	"slices"
	"testing"

	"quoin/api"
	"quoin/items"
)

// J3: Right. (Its limits stand with the others.)

// turning is an automaton of S = S a; S = a in which something is turned.
type turning struct {
	what string
	turn func(a *api.Auto)
}

func testTurnings(t *testing.T, isRight bool, l []turning) {
	t.Helper()
	for _, x := range l {
		a := listsAuto()
		x.turn(&a)
		if likeRight(t, lists(), a) != isRight {
			t.Error(x.what, "is taken for", !isRight)
		}
	}
}

func TestNoStates(t *testing.T) {
	testTurnings(t, false, []turning{
		{"nothing", func(a *api.Auto) { *a = api.Auto{} }},
		{"empty lists", func(a *api.Auto) { *a = api.Auto{States: [][]api.Item{}, Next: [][]int{}} }},
		{"no states", func(a *api.Auto) { a.States = nil }},
		{"no rows", func(a *api.Auto) { a.Next = nil }},
		{"a state without items", func(a *api.Auto) { a.States[3] = nil }},
		{"a state without items besides", func(a *api.Auto) {
			a.States, a.Next = append(a.States, nil), append(a.Next, []int{-1, -1, -1, -1})
		}},
		{"the first without items", func(a *api.Auto) { a.States[0] = []api.Item{} }},
	})
}

func TestRowsOfNext(t *testing.T) {
	testTurnings(t, false, []turning{
		{"a row too few", func(a *api.Auto) { a.Next = a.Next[:3] }},
		{"a row too many", func(a *api.Auto) { a.Next = append(a.Next, []int{-1, -1, -1, -1}) }},
		{"a number too few", func(a *api.Auto) { a.Next[0] = a.Next[0][:3] }},
		{"a number too few where nothing goes on", func(a *api.Auto) { a.Next[3] = a.Next[3][:3] }},
		{"a number too many", func(a *api.Auto) { a.Next[3] = append(a.Next[3], -1) }},
		{"an empty row", func(a *api.Auto) { a.Next[1] = nil }},
		{"all rows too long", func(a *api.Auto) {
			for s := range a.Next {
				a.Next[s] = append(a.Next[s], -1)
			}
		}},
		{"all rows too short", func(a *api.Auto) {
			for s := range a.Next {
				a.Next[s] = a.Next[s][:3]
			}
		}},
		{"all rows empty", func(a *api.Auto) { a.Next = [][]int{nil, nil, nil, nil} }},
	})
	var l []turning
	for s := range 4 {
		for x := range 4 {
			for _, to := range []int{math.MinInt, -2, 4, 5, math.MaxInt} {
				l = append(l, turning{told([]int{s, x, to}), func(a *api.Auto) { a.Next[s][x] = to }})
			}
			for to := -1; to < 4; to++ { // -1 where it goes on, a state where it does not, another one
				if listsAuto().Next[s][x] != to {
					l = append(l, turning{told([]int{s, x, to}), func(a *api.Auto) { a.Next[s][x] = to }})
				}
			}
		}
	}
	testTurnings(t, false, l)
}

func TestStatesThatAreNone(t *testing.T) {
	l := []turning{
		{"not rising", func(a *api.Auto) { slices.Reverse(a.States[1]) }},
		{"not rising at the end", func(a *api.Auto) { s := a.States[0]; s[3], s[4] = s[4], s[3] }},
		{"an item twice", func(a *api.Auto) { a.States[3] = append(a.States[3], a.States[3][1]) }},
		{"an item twice at the beginning", func(a *api.Auto) { a.States[2] = slices.Insert(a.States[2], 0, a.States[2][0]) }},
	}
	for _, bad := range state([3]int{-1, 0, 0}, [3]int{3, 0, 0}, [3]int{2, 2, 0}, [3]int{0, 3, 0}, [3]int{0, -1, 0}, [3]int{1, 1, 3}, [3]int{1, 1, -1}, [3]int{math.MaxInt, math.MaxInt, math.MaxInt}, [3]int{math.MinInt, math.MinInt, math.MinInt}) {
		for s := range 4 {
			l = append(l,
				turning{"no item, in order", func(a *api.Auto) { a.States[s] = wordOrder(append(a.States[s], bad)) }},
				turning{"no item, for another", func(a *api.Auto) { a.States[s][0] = bad }},
				turning{"no item, for the last", func(a *api.Auto) { a.States[s][len(a.States[s])-1] = bad }},
				turning{"no item alone", func(a *api.Auto) { a.States[s] = []api.Item{bad} }})
		}
	}
	for at := range 4 { // the start's item alone asks for all the others
		l = append(l, turning{"not closed", func(a *api.Auto) { a.States[0] = slices.Delete(a.States[0], at, at+1) }})
	}
	testTurnings(t, false, l)
}

func TestFirstState(t *testing.T) {
	testTurnings(t, false, []turning{
		{"without the start's item", func(a *api.Auto) { a.States[0] = a.States[0][:4] }},
		{"the start's item with another Look", func(a *api.Auto) { a.States[0][4].Look = 2 }},
		{"another state first", func(a *api.Auto) {
			a.States[0], a.States[3] = a.States[3], a.States[0]
			a.Next = [][]int{{-1, -1, -1, -1}, {-1, -1, -1, -1}, {-1, -1, 0, -1}, {-1, -1, 1, 2}}
		}},
		{"the last state alone", func(a *api.Auto) { a.States, a.Next = a.States[3:], a.Next[3:] }},
	})
}

// A kernel may have other Looks than are gone on to, but no other Prod or Dot.
func TestOtherLooks(t *testing.T) {
	with := func(s int, l ...[3]int) func(a *api.Auto) {
		return func(a *api.Auto) { a.States[s] = wordsOf(lists()).closure(append(a.States[s], state(l...)...)...) }
	}
	testTurnings(t, true, []turning{
		{"as it is", func(a *api.Auto) {}},
		{"behind a", with(1, [3]int{1, 1, 1})},
		{"behind S", with(2, [3]int{2, 1, 1}, [3]int{2, 1, 2})},
		{"behind S a", with(3, [3]int{0, 2, 1})},
		{"behind S, and behind S a", func(a *api.Auto) {
			with(2, [3]int{0, 1, 1})(a)
			with(3, [3]int{0, 2, 1})(a)
		}},
		{"all that begin with the start's item", func(a *api.Auto) {
			*a, _ = wordsOf(lists()).auto(20, state([3]int{2, 0, 0}, [3]int{2, 0, 1}, [3]int{2, 0, 2})...)
		}},
		{"and where one begins elsewhere, too", func(a *api.Auto) {
			*a, _ = wordsOf(lists()).auto(20, state([3]int{2, 0, 0}, [3]int{0, 1, 1}, [3]int{1, 1, 1})...)
		}},
	})
	testTurnings(t, false, []turning{
		{"behind S alone", with(2, [3]int{0, 1, 1})},
		{"another production", with(1, [3]int{0, 2, 0})},
		{"the start's behind a", with(1, [3]int{2, 1, 0})},
		{"another Dot", with(3, [3]int{0, 1, 0})},
		{"another production behind S a", with(3, [3]int{1, 1, 0})},
		{"the start's item", with(3, [3]int{2, 0, 0})},
		{"the start's item behind S", with(2, [3]int{2, 0, 0})},
		{"a Look that is missing", func(a *api.Auto) { a.States[1] = a.States[1][:1] }},
		{"another Look for one", func(a *api.Auto) { a.States[1][1].Look = 1 }},
		{"a Prod that is missing", func(a *api.Auto) { a.States[2] = a.States[2][:2] }},
	})
}

// A state's closed items besides what its kernel asks for are none of its kernel: they may be.
func TestOtherItemsAhead(t *testing.T) {
	g := read("S = a A; A = b; A = c")
	a, _ := likeBuild(t, g)
	to := a.Next[0][symbols(g, "a")[0]]
	a.States[to] = wordOrder(append(a.States[to], api.Item{Prod: 1, Look: 1}))
	if likeRight(t, g, a) {
		t.Error("what is gone on to has not the Look")
	}
	behind := a.Next[to][symbols(g, "b")[0]]
	a.States[behind] = wordOrder(append(a.States[behind], api.Item{Prod: 1, Dot: 1, Look: 1}))
	if !likeRight(t, g, a) {
		t.Error("all have what they need")
	}
}

// States that no way leads to, and states that are there twice, are looked at like all others.
func TestStatesBesides(t *testing.T) {
	none := []int{-1, -1, -1, -1}
	besides := func(next []int, l ...[3]int) func(a *api.Auto) {
		return func(a *api.Auto) { a.States, a.Next = append(a.States, state(l...)), append(a.Next, next) }
	}
	testTurnings(t, true, []turning{
		{"a whole item", besides(none, [3]int{0, 2, 1})},
		{"two items", besides([]int{-1, -1, 3, -1}, [3]int{0, 1, 2}, [3]int{1, 1, 1})},
		{"no kernel", besides([]int{-1, -1, 1, -1}, [3]int{1, 0, 0})},
		{"the last state again", func(a *api.Auto) {
			besides(none, [3]int{0, 2, 0}, [3]int{0, 2, 2})(a)
			a.Next[2][2] = 4
		}},
		{"the first state again", func(a *api.Auto) {
			a.States, a.Next = append(a.States, slices.Clone(a.States[0])), append(a.Next, slices.Clone(a.Next[0]))
		}},
		{"a state that leads to itself", func(a *api.Auto) {
			a.States, a.Next = append(a.States, slices.Clone(a.States[2])), append(a.Next, slices.Clone(a.Next[2]))
		}},
	})
	testTurnings(t, false, []turning{
		{"that goes on nowhere", besides(none, [3]int{0, 1, 2})},
		{"that goes on to another", besides([]int{-1, -1, 1, -1}, [3]int{0, 1, 2})},
		{"with a Look too many", besides([]int{-1, -1, 3, -1}, [3]int{0, 1, 1})},
		{"that is not closed", besides([]int{-1, -1, -1, 2}, [3]int{2, 0, 0})},
		{"that leads to the first", besides([]int{-1, -1, -1, 0}, [3]int{0, 0, 2})},
		{"not rising", besides(none, [3]int{0, 2, 2}, [3]int{0, 2, 1})},
		{"not rising by its Dot", besides([]int{-1, -1, 3, -1}, [3]int{0, 2, 1}, [3]int{0, 1, 2})},
		{"not rising by its Prod", besides(none, [3]int{1, 1, 0}, [3]int{0, 2, 2})},
		{"an item twice", besides(none, [3]int{0, 2, 1}, [3]int{0, 2, 1})},
		{"no item", besides(none, [3]int{0, 2, 3})},
		{"that goes on by the end", besides([]int{4, -1, -1, -1}, [3]int{0, 2, 1})},
	})
	var l []turning
	for s := range 4 { // what has no kernel has nothing that no step has: and yet no symbol leads there
		for x := range 4 {
			l = append(l, turning{told([]int{s, x}), func(a *api.Auto) {
				besides([]int{-1, -1, 1, -1}, [3]int{1, 0, 0})(a)
				a.Next[s][x] = 4
			}})
		}
	}
	testTurnings(t, false, l)
}

// States that were put together, all of one core, or some.
func TestPutTogether(t *testing.T) {
	m := newMaker(711)
	for _, grammar := range []string{"S = a A d; S = b B d; S = a B e; S = b A e; A = c; B = c", "S = C C; C = c C; C = d", "S = A a; S = b A b; A = c"} {
		g := read(grammar)
		a, _ := likeBuild(t, g)
		less := m.putTogether(g, a, true)
		if len(less.States) >= len(a.States) || !likeRight(t, g, less) {
			t.Error(grammar, len(less.States))
		}
	}
	often := 0
	for range 20000 {
		g := m.plain(1+m.Intn(5), 1+m.Intn(3), 1+m.Intn(4))
		a, is := wordsOf(g).auto(60, startItem(g))
		if !is {
			continue
		}
		less := m.putTogether(g, a, m.Intn(2) == 0)
		if !likeRight(t, g, less) {
			t.Fatal(text(g), less)
		}
		if len(less.States) < len(a.States) {
			often++
		}
	}
	if often < 500 {
		t.Error("too few:", often)
	}
}

// Automata whose first state begins with other items, too.
func TestOtherBeginnings(t *testing.T) {
	m := newMaker(712)
	var often [2]int
	for range 3000 {
		g := m.plain(1+m.Intn(4), 1+m.Intn(3), 1+m.Intn(3))
		l := m.items(g, 3)
		isStart := m.Intn(4) > 0
		if isStart {
			l = append(l, startItem(g))
		}
		a, is := wordsOf(g).auto(30, l...)
		if !is {
			continue
		}
		if likeRight(t, g, a) {
			often[1]++
		} else {
			often[0]++
		}
		if isStart && items.Right(g, a) != api.OK {
			t.Fatal(text(g), l)
		}
	}
	if often[0] < 300 || often[1] < 1000 {
		t.Error(often)
	}
}

// Automata that are right, with states put together or there twice, in which something, wherever, is another one.
func TestRightByChance(t *testing.T) {
	m := newMaker(713)
	var often [2]int
	for range 30000 {
		g := m.plain(1+m.Intn(4), 1+m.Intn(3), 1+m.Intn(3))
		a, is := wordsOf(g).auto(15, startItem(g))
		if !is {
			continue
		}
		if m.Intn(3) == 0 {
			a = m.putTogether(g, a, m.Intn(2) == 0)
		}
		if m.Intn(3) == 0 {
			a = m.again(a)
		}
		for range m.Intn(3) {
			m.turn(g, &a)
		}
		if likeRight(t, g, a) {
			often[1]++
		} else {
			often[0]++
		}
	}
	if often[0] < 5000 || often[1] < 5000 {
		t.Error(often)
	}
}

// Of another grammar an automaton is right just if the words say so.
func TestRightOfOthers(t *testing.T) {
	m := newMaker(714)
	right := 0
	for range 5000 {
		g := m.plain(2, 2, 2)
		a, is := wordsOf(g).auto(15, startItem(g))
		if !is || len(g.Prods) == 0 {
			continue
		}
		p := &g.Prods[m.Intn(len(g.Prods))]
		switch m.Intn(5) {
		case 0:
			p.Left = m.Intn(len(g.Rules))
		case 1:
			p.Right = append(slices.Clone(p.Right), 1)
		case 2:
			p.Right = p.Right[:m.Intn(len(p.Right)+1)]
		case 3:
			g.Start = m.Intn(len(g.Rules))
		case 4:
			g.Prods = g.Prods[1:]
		}
		if likeRight(t, g, a) {
			right++
		}
	}
	if right < 300 {
		t.Error("too few:", right)
	}
}
