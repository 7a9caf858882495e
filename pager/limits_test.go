package pager_test

import (
	"slices"
	"strconv"
	"testing"

	"quoin/api"
	"quoin/items"
	"quoin/pager"
)

// P15.1 and P15.2: closures of just MaxItems items, automata of just MaxStates states and of just MaxAll items, and of one more; which of ErrFull and ErrStates is first. Grammars as large as any may be: all calls end, and soon.

// plain is a grammar of the kinds k0, k1, .. (2, 3, ..), as many as there may be, and of so many rules (1024, ..). The first one is the start.
func plain(rules int, prods ...api.Prod) api.Plain {
	g := api.Plain{Kinds: []string{"end", "error"}, Precs: make([]api.Prec, api.MaxKinds), Prods: prods}
	for n := range api.MaxKinds - 2 {
		g.Kinds = append(g.Kinds, "k"+strconv.Itoa(n))
	}
	for n := range rules {
		g.Rules = append(g.Rules, "R"+strconv.Itoa(n))
	}
	return g
}

const firstRule = api.MaxKinds

// wideProds are a rule's productions without symbols, and another's of one kind each.
func wideProds(rule, empty, other, kinds int) []api.Prod {
	prods := slices.Repeat([]api.Prod{{Left: rule}}, empty)
	for n := range kinds {
		prods = append(prods, api.Prod{Left: other, Right: []int{2 + n}})
	}
	return prods
}

// wide is a grammar whose production 0 is S = k1000 A B, where A makes the empty row in so many ways, and B so many kinds: {0 1 0} and its closure are empty * kinds + 1 items.
func wide(empty, kinds int) api.Plain {
	return plain(3, append([]api.Prod{{Right: []int{1002, firstRule + 1, firstRule + 2}}}, wideProds(1, empty, 2, kinds)...)...)
}

func TestMaxItemsOfUnite(t *testing.T) {
	g := wide(255, 257)
	one, other := kernel([]int{0, 1, 0}), kernel([]int{0, 1, 1})
	l, e := pager.Unite(g, one, one)
	want, eWant := items.Closure(g, one...)
	if e != api.OK || eWant != api.OK || len(l) != api.MaxItems || !slices.Equal(l, want) {
		t.Error(len(l), e)
	}
	if l, e := pager.Unite(g, append(one, kernel([]int{0, 0, 5}, []int{1, 0, 0}, []int{300, 0, 7})...), append(one, one...)); e != api.OK || len(l) != api.MaxItems {
		t.Error("with what is of no kernel:", len(l), e)
	}
	if l, e := pager.Unite(g, one, other); e != api.ErrFull || len(l) > 0 {
		t.Error("one more:", len(l), e)
	}
	if l, e := pager.Unite(g, kernel([]int{0, 1, 0, 1}), one); e != api.ErrFull || len(l) > 0 {
		t.Error("one more, in one of both:", len(l), e)
	}
	if l, e := pager.Unite(wide(256, 256), one, one); e != api.ErrFull || len(l) > 0 {
		t.Error("one more item ahead:", len(l), e)
	}
}

// Items that ask for nothing count, too; for Weak and Cores there is no limit.
func TestMaxItemsHandedIn(t *testing.T) {
	g := wide(255, 257)
	var l []api.Item
	for prod := 256; prod < len(g.Prods); prod++ {
		for look := range g.Kinds {
			l = append(l, api.Item{Prod: prod, Dot: 1, Look: look})
		}
	}
	if c, e := pager.Unite(g, l[:api.MaxItems], l[:api.MaxItems]); e != api.OK || !slices.Equal(c, l[:api.MaxItems]) {
		t.Error(len(c), e)
	}
	if c, e := pager.Unite(g, l[:api.MaxItems+1], l[:api.MaxItems+1]); e != api.ErrFull || len(c) > 0 {
		t.Error(len(c), e)
	}
	if c, e := pager.Unite(g, l[:api.MaxItems], append(l[:api.MaxItems-1:api.MaxItems-1], api.Item{Prod: 256 + 63, Dot: 1})); e != api.OK || len(c) != api.MaxItems {
		t.Error(len(c), e)
	}
	if is, e := pager.Weak(g, l, l); e != api.OK || !is {
		t.Error(is, e)
	}
	if n, e := pager.Cores(g, api.Auto{States: [][]api.Item{l, l[1:], l[1024:], l[1024:]}}); e != api.OK || n != 2 {
		t.Error(n, e)
	}
}

// built holds Build at an automaton that is Right: how many items it has.
func built(t *testing.T, what string, g api.Plain) (api.Auto, int) {
	t.Helper()
	a, e := pager.Build(g)
	if e != api.OK || items.Right(g, a) != api.OK {
		t.Fatal(what, len(a.States), e)
	}
	count := 0
	for _, l := range a.States {
		count += len(l)
	}
	return a, count
}

// isFull holds Build at an error.
func isFull(t *testing.T, what string, g api.Plain, want api.Errno) {
	t.Helper()
	if a, e := pager.Build(g); e != want || told(a) != told(api.Auto{}) {
		t.Error(what, len(a.States), e)
	}
}

// likeItems holds Build at items' automaton, as no states are put together, and Lalr, too.
func likeItems(t *testing.T, what string, g api.Plain) (api.Auto, int) {
	t.Helper()
	a, count := built(t, what, g)
	one, e := items.Build(g)
	l, eLalr := pager.Lalr(g)
	if e != api.OK || eLalr != api.OK || !isSame(a, one) || !isSame(l, one) {
		t.Error(what, len(one.States), e, eLalr)
	}
	return a, count
}

func isSame(a, b api.Auto) bool {
	return slices.EqualFunc(a.States, b.States, slices.Equal) && slices.EqualFunc(a.Next, b.Next, slices.Equal)
}

func TestMaxItemsOfBuild(t *testing.T) {
	if a, _ := likeItems(t, "just MaxItems", wide(255, 257)); len(a.States[1]) != api.MaxItems {
		t.Error("the test is wrong:", len(a.States[1]))
	}
	isFull(t, "one more", wide(256, 256), api.ErrFull)
	isFull(t, "many more", wide(2000, 1000), api.ErrFull)
}

// inContexts is a grammar of a rule in so many contexts, each with a Look of its own: the rule's first production is told, and what stands behind it.
func inContexts(rules, contexts int, right []int, behind ...api.Prod) api.Plain {
	var prods []api.Prod
	for n := range contexts {
		prods = append(prods, api.Prod{Right: []int{3 + n, firstRule + 1, 503 + n}})
	}
	prods = append(prods, api.Prod{Left: 1, Right: right})
	return plain(rules, append(prods, behind...)...)
}

// States of just MaxItems items each, that together have one more: only what is put together is too much.
func TestMaxItemsOfMerged(t *testing.T) {
	g := inContexts(4, 1, []int{1002, firstRule + 2, firstRule + 3}, wideProds(2, 255, 3, 257)...)
	if a, _ := likeItems(t, "one context", g); len(a.States[wayToKinds(a, 3, 1002)]) != api.MaxItems {
		t.Error("the test is wrong")
	}
	g = inContexts(4, 2, []int{1002, firstRule + 2, firstRule + 3}, wideProds(2, 255, 3, 257)...)
	isFull(t, "two contexts", g, api.ErrFull)
	one, e := items.Build(g)
	if e != api.OK {
		t.Fatal("the test is wrong:", e)
	}
	l, e := pager.Lalr(g) // it has items' errors alone
	if both := len(l.States[wayToKinds(l, 3, 1002)]); e != api.OK || len(l.States) >= len(one.States) || both != api.MaxItems+1 {
		t.Error(len(l.States), both, e)
	}
}

// wayToKinds is a state of an automaton, by the numbers of symbols.
func wayToKinds(a api.Auto, row ...int) int {
	at := 0
	for _, x := range row {
		at = a.Next[at][x]
	}
	return at
}

// rows is a grammar of which each production of the start is a row of symbols, with other productions behind them.
func rows(rules int, behind []api.Prod, rights ...[]int) api.Plain {
	var prods []api.Prod
	for _, r := range rights {
		prods = append(prods, api.Prod{Right: r})
	}
	return plain(rules, append(prods, behind...)...)
}

// line is a row of so many symbols: its own kind, and others that are alike in all. By it as many states are met, of one item each.
func line(kind, length int) []int {
	return append([]int{kind}, slices.Repeat([]int{2}, length-1)...)
}

// linesOf are lines of one length, each with a kind of its own, from one on.
func linesOf(kind, count, length int) [][]int {
	var l [][]int
	for n := range count {
		l = append(l, line(kind+n, length))
	}
	return l
}

func TestMaxStates(t *testing.T) {
	full := append(linesOf(3, 63, 64), line(66, 62))
	if a, _ := likeItems(t, "just MaxStates", rows(1, nil, full...)); len(a.States) != api.MaxStates {
		t.Fatal("the test is wrong:", len(a.States))
	}
	isFull(t, "one more", rows(1, nil, append(linesOf(3, 63, 64), line(66, 63))...), api.ErrStates)
	isFull(t, "one more at the beginning", rows(1, nil, append(full, line(67, 1))...), api.ErrStates)
	isFull(t, "many more", rows(1, nil, linesOf(3, 900, 64)...), api.ErrStates)
}

// leaving are productions in which a state is left behind: 23 are made, 22 are reached. Behind the kind 506 of A there may stand more. The rules X, Y, A and B are 1 to 4.
func leaving(moreOfA ...int) []api.Prod {
	const ruleX, ruleY, ruleA, ruleB = firstRule + 1, firstRule + 2, firstRule + 3, firstRule + 4
	return []api.Prod{
		{Right: []int{ruleX, 507}}, {Right: []int{502, ruleX, 509}}, {Right: []int{ruleY, 509}}, {Right: []int{503, ruleY, 507}},
		{Left: 1, Right: []int{500, ruleA}}, {Left: 1, Right: []int{500, ruleB, 508}},
		{Left: 2, Right: []int{501, ruleA, 510}}, {Left: 2, Right: []int{501, ruleB}},
		{Left: 3, Right: append([]int{506}, moreOfA...)}, {Left: 4, Right: []int{506}},
	}
}

// States that are left in the end count, too.
func TestMaxStatesLeft(t *testing.T) {
	g := plain(5, leaving()...)
	if a, _ := built(t, "leaving", g); len(a.States) != 22 {
		t.Fatal("the test is wrong:", len(a.States))
	}
	most := rows(5, leaving(), append(linesOf(3, 63, 64), line(66, 41))...)
	if a, _ := built(t, "just MaxStates", most); len(a.States) != api.MaxStates-1 {
		t.Error(len(a.States))
	}
	isFull(t, "one more", rows(5, leaving(), append(linesOf(3, 63, 64), line(66, 42))...), api.ErrStates)
}

// The wide rules of the grammars below: A makes the empty row in 255 ways, C in 237, D in 256; B makes 257 kinds.
const (
	ruleA = firstRule + 1
	ruleB = firstRule + 2
	ruleC = firstRule + 3
	ruleD = firstRule + 4
)

func wideRules() []api.Prod {
	l := append(wideProds(1, 255, 2, 257), wideProds(3, 237, 3, 0)...)
	return append(l, wideProds(4, 256, 4, 0)...)
}

// wides are rows of a kind, of those from 500 on, and A B: states of MaxItems items, one of 258, and a whole one; 257 whole ones in all.
func wides(count int) [][]int {
	var l [][]int
	for n := range count {
		l = append(l, []int{500 + n, ruleA, ruleB})
	}
	return l
}

func TestMaxAll(t *testing.T) {
	most := append(wides(15), []int{600, ruleC, ruleB}, line(300, 64), line(301, 64), line(302, 64))
	if _, count := likeItems(t, "just MaxAll", rows(5, wideRules(), append(most, line(303, 11))...)); count != api.MaxAll {
		t.Fatal("the test is wrong:", count)
	}
	isFull(t, "one more", rows(5, wideRules(), append(most, line(303, 12))...), api.ErrFull)
	isFull(t, "one more in the first state", rows(5, wideRules(), append(most, line(303, 10), line(304, 1))...), api.ErrFull)
	isFull(t, "one state more", rows(5, wideRules(), append(wides(16), most...)...), api.ErrFull)
}

// A closure that is made again counts as it was made last: here one of 51401 items and more is made for each of 26 contexts.
func TestMaxAllAgain(t *testing.T) {
	again := func(length int) api.Plain {
		g := inContexts(4, 25, []int{2, firstRule + 2, firstRule + 3}, wideProds(2, 200, 3, 257)...)
		g.Prods = append(g.Prods, api.Prod{Right: []int{firstRule + 1}})
		for n := range 19 { // others of as many items that are not put together
			g.Prods = append(g.Prods, api.Prod{Right: []int{600 + n, firstRule + 2, firstRule + 3}})
		}
		for _, l := range append(linesOf(300, 100, 12), line(400, length)) {
			g.Prods = append(g.Prods, api.Prod{Right: l})
		}
		return g
	}
	a, count := built(t, "again", again(1))
	if len(a.States[wayToKinds(a, 2)]) != 200*257+26 || wayToKinds(a, 2) != 1 || wayToKinds(a, 3, 2) != 1 || count < 20*200*257 {
		t.Error("the test is wrong:", len(a.States[1]), count)
	}
}

// What is left in the end counts, too: here a state of some 20000 items.
func TestMaxAllLeft(t *testing.T) {
	const looks, many = 257, 76
	const left = 4 + looks*many
	g := func(rest ...[]int) api.Plain {
		behind := append(leaving(firstRule+5, firstRule+6), wideProds(5, many, 6, looks)...)
		behind = append(behind, wideProds(7, 255, 7, 0)...)
		for n := range 15 {
			rest = append(rest, []int{600 + n, firstRule + 7, firstRule + 6})
		}
		return rows(8, behind, rest...)
	}
	_, count := built(t, "leaving", g())
	room := api.MaxAll - left - count // each line needs as many items as symbols, and one in the first state
	if room < 64 {
		t.Fatal("the test is wrong:", room)
	}
	var rest [][]int
	for n := 0; room > 0; n++ {
		length := min(room-1, 64)
		if room-length-1 == 1 {
			length--
		}
		rest = append(rest, line(700+n, length))
		room -= length + 1
	}
	if _, count := built(t, "just MaxAll", g(rest...)); count != api.MaxAll-left {
		t.Error(count)
	}
	last := len(rest) - 1
	rest[last] = append(rest[last], 2)
	isFull(t, "one more", g(rest...), api.ErrFull)
}

// A state is closed when it is done, not when it is made: states that would be too many as it is made, or as one ahead of it is done, are told first; those to which it would go on itself are not.
func TestWhichLimitIsFirst(t *testing.T) {
	large := func(kind, length int) []int { return append(line(kind, length), ruleD, ruleB) }
	g := func(l ...[]int) api.Plain { return rows(5, wideRules(), l...) }
	isFull(t, "the last that may be", g(append(linesOf(3, 65, 62), line(80, 2), large(90, 62))...), api.ErrFull)
	isFull(t, "one more than may be", g(append(linesOf(3, 65, 62), line(80, 3), large(90, 62))...), api.ErrStates)
	isFull(t, "soon", g(append(linesOf(3, 90, 62), large(500, 1))...), api.ErrFull)
	isFull(t, "behind those that go on to too many", g(append(linesOf(4, 65, 63), large(80, 62))...), api.ErrStates)
	isFull(t, "ahead of them", g(append(linesOf(4, 65, 63), large(3, 62))...), api.ErrFull)
	isFull(t, "behind the last one made", g(append(linesOf(4, 64, 63), large(80, 62))...), api.ErrFull)
}

// The same of all items.
func TestWhichLimitOfAllIsFirst(t *testing.T) {
	last := func(kind, length int) []int { return append(line(kind, length), ruleA, ruleB) }
	g := func(l ...[]int) api.Plain { return rows(5, wideRules(), append(l, wides(15)...)...) }
	// 2 states, three a wide row, 257 of B, and 60 of each of 63 lines: 4084. Behind these there are those of the longer lines.
	fill := func(kind, longer int) [][]int {
		return append(linesOf(kind, longer, 61), linesOf(kind+longer, 62-longer, 60)...)
	}
	isFull(t, "as the last one", g(append(fill(3, 12), last(80, 60))...), api.ErrFull)
	isFull(t, "behind those that go on to too many", g(append(fill(3, 13), last(80, 60))...), api.ErrStates)
	isFull(t, "ahead of them", g(append(fill(4, 13), last(3, 60))...), api.ErrFull)
	if a, _ := built(t, "without it", g(fill(3, 12)...)); len(a.States) != api.MaxStates-60 {
		t.Error("the test is wrong:", len(a.States))
	}
}

// Errors of items' automaton are Lalr's, even where the merged one has none.
func TestLalrErrors(t *testing.T) {
	for what, c := range map[string]struct {
		g    api.Plain
		want api.Errno
	}{
		"too many states": {inContexts(2, 70, line(1002, 64)), api.ErrStates},
		"too many items":  {inContexts(4, 21, []int{1002, firstRule + 2, firstRule + 3}, wideProds(2, 200, 3, 257)...), api.ErrFull},
	} {
		if _, e := items.Build(c.g); e != c.want {
			t.Fatal("the test is wrong:", what, e)
		}
		if l, e := pager.Lalr(c.g); e != c.want || told(l) != told(api.Auto{}) {
			t.Error(what, len(l.States), e)
		}
		built(t, what, c.g)
	}
}

// largest is a grammar of 2048 rules and 4096 productions of at most 64 symbols; the symbols are told for each production.
func largest(right func(prod int) []int) api.Plain {
	var prods []api.Prod
	for n := range api.MaxProds {
		prods = append(prods, api.Prod{Left: n / 2, Right: right(n)})
	}
	return plain(api.MaxRules, prods...)
}

// endsSoon asks all calls at a large grammar: how many states the merged automaton has, 0 if there is none.
func endsSoon(t *testing.T, g api.Plain) int {
	t.Helper()
	a, e := pager.Build(g)
	l, eLalr := pager.Lalr(g)
	for _, why := range []api.Errno{e, eLalr} {
		if why != api.OK && why != api.ErrFull && why != api.ErrStates {
			t.Error(e, eLalr)
		}
	}
	if e == api.OK && items.Right(g, a) != api.OK || eLalr == api.OK && items.Right(g, l) != api.OK {
		t.Error("it is not Right")
	}
	every := kernel([]int{len(g.Prods), 0, 0})
	for prod, p := range g.Prods {
		for dot := range p.Right {
			every = append(every, api.Item{Prod: prod, Dot: dot + 1, Look: prod % len(g.Kinds)})
		}
	}
	is, eWeak := pager.Weak(g, every, every)
	n, eCores := pager.Cores(g, api.Auto{States: [][]api.Item{every, every, nil}})
	if !is || eWeak != api.OK || n != 2 || eCores != api.OK {
		t.Error(is, eWeak, n, eCores)
	}
	if _, e := pager.Unite(g, every, every); e != api.OK && e != api.ErrFull {
		t.Error(e)
	}
	return len(a.States)
}

func TestLargeNullable(t *testing.T) {
	if n := endsSoon(t, largest(func(n int) []int {
		if n%2 == 1 {
			return []int{2 + n/2%1022}
		}
		if n/2 == api.MaxRules-1 {
			return nil
		}
		return slices.Repeat([]int{firstRule + n/2 + 1}, 64)
	})); n != 0 {
		t.Error(n)
	}
}

func TestLargeRings(t *testing.T) {
	for _, length := range []int{1, 2, 64} {
		endsSoon(t, largest(func(n int) []int {
			if n%2 == 1 {
				return nil
			}
			var l []int
			for k := range length {
				l = append(l, firstRule+(n/2+k+1)%api.MaxRules)
			}
			return l
		}))
	}
}
