package items_test

import (
	"slices"
	"strconv"
	"testing"

	"quoin/api"
	"quoin/items"
)

// J1 to J3: states of just MaxItems items, automata of just MaxStates states and of just MaxAll items, and of one more; which of ErrFull and ErrStates is first. Grammars as large as any may be: all calls end, and soon.

// plain is a grammar of the kinds k0, k1, .. (2, 3, ..), as many as there may be, and of so many rules (1024, ..). The first one is the start.
func plain(rules int, prods ...api.Prod) api.Plain {
	g := api.Plain{Kinds: []string{"end", "error"}, Precs: make([]api.Prec, api.MaxKinds), Prods: prods}
	for n := range api.MaxKinds - 2 {
		g.Kinds = append(g.Kinds, "k"+strconv.Itoa(n))
	}
	for n := range rules {
		g.Rules = append(g.Rules, "R"+strconv.Itoa(n))
	}
	return g
}

const firstRule = api.MaxKinds

// wideProds are a rule's productions without symbols, and another's of one kind each.
func wideProds(rule, empty, other, kinds int) []api.Prod {
	prods := slices.Repeat([]api.Prod{{Left: rule}}, empty)
	for n := range kinds {
		prods = append(prods, api.Prod{Left: other, Right: []int{2 + n}})
	}
	return prods
}

// wide is a grammar whose production 0 is S = A B, where A makes the empty row in so many ways, and B so many kinds: {0 0 0} and its closure are empty * kinds + 1 items.
func wide(empty, kinds int) api.Plain {
	return plain(3, append([]api.Prod{{Right: []int{firstRule + 1, firstRule + 2}}}, wideProds(1, empty, 2, kinds)...)...)
}

// wideState is that closure.
func wideState(empty, kinds int) []api.Item {
	l := state([3]int{0, 0, 0})
	for n := range empty {
		for kind := range kinds {
			l = append(l, api.Item{Prod: 1 + n, Look: 2 + kind})
		}
	}
	return l
}

func TestMaxItemsOfClosure(t *testing.T) {
	g := wide(255, 257)
	l := wideState(255, 257)
	if c, e := items.Closure(g, l[0]); e != api.OK || len(c) != api.MaxItems || !slices.Equal(c, l) {
		t.Fatal(len(c), e)
	}
	if c, e := items.Closure(g, append(l, l...)...); e != api.OK || !slices.Equal(c, l) {
		t.Error("twice:", len(c), e)
	}
	whole := api.Item{Prod: 0, Dot: 2}
	for what, more := range map[string][]api.Item{
		"a whole item more":             {l[0], whole},
		"another Look":                  {l[0], {Look: 1}},
		"a production more":             {l[0], {Prod: 1, Look: 0}},
		"all of it, and a whole item":   append(slices.Clone(l), whole),
		"all but one, and a whole item": append(slices.Clone(l[:len(l)-1]), whole),
		"much more":                     append(slices.Clone(l), state([3]int{0, 0, 1}, [3]int{0, 0, 2}, [3]int{0, 0, 3}, [3]int{0, 2, 3})...),
	} {
		if c, e := items.Closure(g, more...); e != api.ErrFull || len(c) > 0 {
			t.Error(what, len(c), e)
		}
	}
	if c, e := items.Closure(g, append(slices.Clone(l[1:]), whole)...); e != api.OK || len(c) != api.MaxItems {
		t.Error("a whole item for the first:", len(c), e)
	}
	if c, e := items.Closure(wide(256, 256), l[0]); e != api.ErrFull || len(c) > 0 {
		t.Error("one more:", len(c), e)
	}
	if c, e := items.Closure(wide(2000, 1022), l[0]); e != api.ErrFull || len(c) > 0 {
		t.Error("many more:", len(c), e)
	}
}

// Just MaxItems with the point ahead of all, the item with which it begins too; and when there are as many, one more is asked for.
func TestMaxItemsAhead(t *testing.T) {
	prods := append([]api.Prod{{Right: []int{firstRule, firstRule + 1}}}, wideProds(0, 254, 1, 256)...)
	last := api.Prod{Left: 0}
	g := plain(3, append(prods, last)...)
	if c, e := items.Closure(g, api.Item{Look: 2}); e != api.OK || len(c) != api.MaxItems || c[api.MaxItems-1] != (api.Item{Prod: len(prods), Look: 257}) {
		t.Error(len(c), e)
	}
	for what, l := range map[string][]api.Item{"another Look": {{Look: 258}}, "the end": {{}}, "behind it": {{Look: 2}, {Prod: 1}}, "a whole item": {{Look: 2}, {Dot: 2}}} {
		if c, e := items.Closure(g, l...); e != api.ErrFull || len(c) > 0 {
			t.Error(what, len(c), e)
		}
	}
	last.Right = []int{firstRule + 2}
	g = plain(3, append(prods, last)...)
	if c, e := items.Closure(g, api.Item{Look: 2}); e != api.OK || len(c) != api.MaxItems {
		t.Error("a rule without productions:", len(c), e)
	}
	g.Prods = append(g.Prods, api.Prod{Left: 2})
	if c, e := items.Closure(g, api.Item{Look: 2}); e != api.ErrFull || len(c) > 0 {
		t.Error("a rule with one:", len(c), e)
	}
}

// Items that ask for nothing count, too; for Check, Kernel and Lines there is no limit, nor for what Go is handed.
func TestMaxItemsHandedIn(t *testing.T) {
	g := wide(255, 257)
	var l []api.Item
	for prod := range len(g.Prods) {
		for look := range g.Kinds {
			l = append(l, api.Item{Prod: prod, Dot: len(g.Prods[prod].Right), Look: look})
		}
	}
	if c, e := items.Closure(g, l[:api.MaxItems]...); e != api.OK || !slices.Equal(c, l[:api.MaxItems]) {
		t.Error(len(c), e)
	}
	if c, e := items.Closure(g, l[:api.MaxItems+1]...); e != api.ErrFull || len(c) > 0 {
		t.Error(len(c), e)
	}
	if e := items.Check(g, l...); e != api.OK {
		t.Error(e)
	}
	if k, e := items.Kernel(g, l); e != api.OK || len(k) != api.MaxKinds*258 {
		t.Error(len(k), e)
	}
	if lines, e := items.Lines(g, l...); e != api.OK || len(lines) != len(l) {
		t.Error(len(lines), e)
	}
	if to, e := items.Go(g, append(l, api.Item{Prod: 0, Dot: 1}), firstRule+2); e != api.OK || !slices.Equal(to, state([3]int{0, 2, 0})) {
		t.Error(to, e)
	}
}

func TestMaxItemsOfGo(t *testing.T) {
	g := wide(255, 257)
	g.Prods[0].Right = []int{500, firstRule + 1, firstRule + 2}
	want := wideState(255, 257)
	want[0].Dot = 1
	if l, e := items.Go(g, state([3]int{0, 0, 0}), 500); e != api.OK || !slices.Equal(l, want) {
		t.Error(len(l), e)
	}
	if l, e := items.Go(g, state([3]int{0, 0, 0}, [3]int{0, 0, 1}), 500); e != api.ErrFull || len(l) > 0 {
		t.Error(len(l), e)
	}
	if l, e := items.Go(g, state([3]int{0, 0, 0}, [3]int{0, 0, 1}, [3]int{0, 1, 1}), firstRule+1); e != api.OK || len(l) != 1+257 {
		t.Error(len(l), e)
	}
	if a, e := items.Build(g); e != api.OK || len(a.States[1]) != api.MaxItems || items.Right(g, a) != api.OK {
		t.Error(len(a.States), e)
	}
	g = wide(256, 256)
	g.Prods[0].Right = []int{500, firstRule + 1, firstRule + 2}
	isFull(t, "one more", g, api.ErrFull)
}

// isFull holds Build at an error.
func isFull(t *testing.T, what string, g api.Plain, want api.Errno) {
	t.Helper()
	if a, e := items.Build(g); e != want || told(a) != told(api.Auto{}) {
		t.Error(what, len(a.States), e)
	}
}

// wideAuto is the automaton of a wide grammar.
func wideAuto(empty, kinds int) api.Auto {
	g := wide(empty, kinds)
	start := api.Item{Prod: len(g.Prods)}
	first := append(wideState(empty, kinds), start)
	none := slices.Repeat([]int{-1}, size(g))
	start.Dot = 1
	a := api.Auto{States: [][]api.Item{first, {start}, state([3]int{0, 1, 0}), state([3]int{0, 2, 0})}}
	a.Next = [][]int{slices.Clone(none), none, slices.Clone(none), none}
	a.Next[0][firstRule], a.Next[0][firstRule+1], a.Next[2][firstRule+2] = 1, 2, 3
	for n := range kinds {
		prod := 1 + empty + n
		a.States[2] = append(a.States[2], api.Item{Prod: prod})
		a.Next[2][2+n] = len(a.States)
		a.States, a.Next = append(a.States, state([3]int{prod, 1, 0})), append(a.Next, none)
	}
	// As they are met, the kinds' states stand ahead of the one behind B.
	behind := a.States[3]
	a.States = append(append(a.States[:3], a.States[4:]...), behind)
	for x, to := range a.Next[2] {
		if to > 3 {
			a.Next[2][x] = to - 1
		}
	}
	a.Next[2][firstRule+2] = len(a.States) - 1
	return a
}

func TestMaxItemsOfRight(t *testing.T) {
	g, a := wide(217, 302), wideAuto(217, 302)
	if len(a.States[0]) != api.MaxItems {
		t.Fatal("the test is wrong")
	}
	if built, e := items.Build(g); e != api.OK || told(built) != told(a) {
		t.Error(len(built.States), e)
	}
	if e := items.Right(g, a); e != api.OK {
		t.Error(e)
	}
	g, a = wide(255, 257), wideAuto(255, 257)
	if len(a.States[0]) != api.MaxItems+1 {
		t.Fatal("the test is wrong")
	}
	isFull(t, "one more", g, api.ErrFull)
	if e := items.Right(g, a); e != api.ErrAuto {
		t.Error(e)
	}
	// It is the limit alone that is wrong with it.
	g, a = wide(255, 256), wideAuto(255, 256)
	if e := items.Right(g, a); e != api.OK {
		t.Error(e)
	}
}

// rows is a grammar of which each production of the start is a row of symbols, with other productions behind them.
func rows(rules int, behind []api.Prod, rights ...[]int) api.Plain {
	var prods []api.Prod
	for _, r := range rights {
		prods = append(prods, api.Prod{Right: r})
	}
	return plain(rules, append(prods, behind...)...)
}

// line is a row of so many symbols: its own kind, and others that are alike in all. By it as many states are met, of one item each.
func line(kind, length int) []int {
	return append([]int{kind}, slices.Repeat([]int{2}, length-1)...)
}

// linesOf are lines of one length, each with a kind of its own, from one on.
func linesOf(kind, count, length int) [][]int {
	var l [][]int
	for n := range count {
		l = append(l, line(kind+n, length))
	}
	return l
}

func TestMaxStates(t *testing.T) {
	full := append(linesOf(3, 63, 64), line(66, 62))
	g := rows(1, nil, full...)
	a, e := items.Build(g)
	if e != api.OK || len(a.States) != api.MaxStates || items.Right(g, a) != api.OK {
		t.Fatal(len(a.States), e)
	}
	if l, e := items.Path(a, api.MaxStates-1); e != api.OK || !slices.Equal(l, line(65, 64)) {
		t.Error(l, e)
	}
	isFull(t, "one more", rows(1, nil, append(linesOf(3, 63, 64), line(66, 63))...), api.ErrStates)
	isFull(t, "one more at the beginning", rows(1, nil, append(full, line(67, 1))...), api.ErrStates)
	isFull(t, "many more", rows(1, nil, linesOf(3, 900, 64)...), api.ErrStates)
	// One state more, with nothing else wrong.
	a.States = append(a.States, slices.Clone(a.States[api.MaxStates-1]))
	a.Next = append(a.Next, slices.Clone(a.Next[api.MaxStates-1]))
	if e := items.Right(g, a); e != api.ErrAuto {
		t.Error(e)
	}
	if l, e := items.Path(a, api.MaxStates); e != api.ErrNone || len(l) > 0 {
		t.Error(l, e)
	}
}

// The wide rules of the grammars below: A makes the empty row in 255 ways, C in 237, D in 256; B makes 257 kinds.
const (
	ruleA = firstRule + 1
	ruleB = firstRule + 2
	ruleC = firstRule + 3
	ruleD = firstRule + 4
)

func wideRules() []api.Prod {
	l := append(wideProds(1, 255, 2, 257), wideProds(3, 237, 3, 0)...)
	return append(l, wideProds(4, 256, 4, 0)...)
}

// wides are rows of a kind, of those from 500 on, and A B: states of MaxItems items, one of 258, and a whole one; 257 whole ones in all.
func wides(count int) [][]int {
	var l [][]int
	for n := range count {
		l = append(l, []int{500 + n, ruleA, ruleB})
	}
	return l
}

func TestMaxAll(t *testing.T) {
	most := append(wides(15), []int{600, ruleC, ruleB}, line(300, 64), line(301, 64), line(302, 64))
	g := rows(5, wideRules(), append(most, line(303, 11))...)
	a, e := items.Build(g)
	if e != api.OK || items.Right(g, a) != api.OK {
		t.Fatal(len(a.States), e)
	}
	count := 0
	for _, l := range a.States {
		count += len(l)
	}
	if count != api.MaxAll {
		t.Fatal("the test is wrong:", count)
	}
	isFull(t, "one more", rows(5, wideRules(), append(most, line(303, 12))...), api.ErrFull)
	isFull(t, "one more in the first state", rows(5, wideRules(), append(most, line(303, 10), line(304, 1))...), api.ErrFull)
	isFull(t, "one state more", rows(5, wideRules(), append(wides(16), most...)...), api.ErrFull)
}

// Just MaxAll items, and one more, with nothing else wrong: the last state, of one item, once more and twice.
func TestMaxAllOfRight(t *testing.T) {
	g := rows(5, wideRules(), append(wides(15), []int{600, ruleC, ruleB}, line(300, 64), line(301, 64), line(302, 64), line(303, 10))...)
	a, e := items.Build(g)
	last := len(a.States) - 1
	if e != api.OK || len(a.States[last]) != 1 {
		t.Fatal(len(a.States), e)
	}
	for _, want := range []api.Errno{api.OK, api.ErrAuto} {
		a.States, a.Next = append(a.States, slices.Clone(a.States[last])), append(a.Next, slices.Clone(a.Next[last]))
		if e := items.Right(g, a); e != want {
			t.Error(e, "not", want)
		}
	}
}

// What the last state that is met is like, behind just MaxStates others, or one less, or one more.
func TestWhichLimitIsFirst(t *testing.T) {
	ahead := func(kind int, behind ...int) []int { return append(line(kind, 62), behind...) }
	// 2 states, 61 of the longest line, and 65 * 62 + 3 of others: 4096; the next one is behind 62 symbols.
	fill := append(linesOf(3, 65, 62), line(80, 3))
	one := func(behind ...int) api.Plain { return rows(5, wideRules(), append(fill, ahead(90, behind...))...) }
	isFull(t, "a state of one item", one(7), api.ErrStates)
	isFull(t, "a whole state", one(), api.ErrStates)
	isFull(t, "a state of MaxItems", one(ruleA, ruleB), api.ErrStates)
	isFull(t, "a state of more than MaxItems", one(ruleD, ruleB), api.ErrFull)
	less := append(linesOf(3, 65, 62), line(80, 2))
	isFull(t, "more than MaxItems as the last that may be", rows(5, wideRules(), append(less, ahead(90, ruleD, ruleB))...), api.ErrFull)
	more := append(linesOf(3, 65, 62), line(80, 3), line(81, 62))
	isFull(t, "more than MaxItems behind one too many", rows(5, wideRules(), append(more, ahead(90, ruleD, ruleB))...), api.ErrStates)
	isFull(t, "more than MaxItems soon", rows(5, wideRules(), append(linesOf(3, 90, 62), []int{500, ruleD, ruleB})...), api.ErrFull)
}

// Two states to which the last one that may be goes on, by its symbols 7 and 8: 2 states, 60 of the longest lines, and 67 * 60 + 14 of others are 4096.
func TestWhichLimitIsFirstBySymbol(t *testing.T) {
	both := func(seventh, eighth []int) api.Plain {
		ahead := line(90, 60)
		return rows(5, wideRules(), append(linesOf(3, 67, 60), line(80, 14), slices.Concat(ahead, []int{7}, seventh), slices.Concat(ahead, []int{8}, eighth))...)
	}
	isFull(t, "one too many first", both([]int{9}, []int{ruleD, ruleB}), api.ErrStates)
	isFull(t, "more than MaxItems first", both([]int{ruleD, ruleB}, []int{9}), api.ErrFull)
	if a, e := items.Build(rows(5, wideRules(), append(linesOf(3, 67, 60), line(80, 14), line(90, 60))...)); e != api.OK || len(a.States) != api.MaxStates {
		t.Error("the test is wrong:", len(a.States), e)
	}
}

// The same of all items: a state by which they are too many, and which is one too many, too.
func TestWhichLimitOfAllIsFirst(t *testing.T) {
	fill := func(wide, rest int) [][]int { // 2 states, three a wide row, 257 of B, 61 of the longest line, and 60 * 62 and rest: 4096
		return append(append(wides(wide), linesOf(300, 60, 62)...), line(400, rest))
	}
	last := append(line(700, 62), ruleA, ruleB)
	isFull(t, "too many items", rows(5, wideRules(), append(fill(15, 11), last)...), api.ErrFull)
	isFull(t, "as many as may be", rows(5, wideRules(), append(fill(14, 14), last)...), api.ErrStates)
	isFull(t, "too many items, behind one state too many", rows(5, wideRules(), append(fill(15, 11), line(650, 62), last)...), api.ErrStates)
	isFull(t, "too many items as the last that may be", rows(5, wideRules(), append(fill(15, 10), last)...), api.ErrFull)
}

// largest is a grammar of 2048 rules and 4096 productions of at most 64 symbols; the symbols are told for each production.
func largest(right func(prod int) []int) api.Plain {
	var prods []api.Prod
	for n := range api.MaxProds {
		prods = append(prods, api.Prod{Left: n / 2, Right: right(n)})
	}
	return plain(api.MaxRules, prods...)
}

// everyItem is an item with the point ahead of each symbol of all productions.
func everyItem(g api.Plain) []api.Item {
	l := []api.Item{startItem(g)}
	for prod, p := range g.Prods {
		for dot := range p.Right {
			l = append(l, api.Item{Prod: prod, Dot: dot})
		}
	}
	return l
}

// endsSoon asks all calls at a largest grammar: how long the closure of the start's item is.
func endsSoon(t *testing.T, g api.Plain) int {
	t.Helper()
	c, e := items.Closure(g, startItem(g))
	_, eAll := items.Closure(g, everyItem(g)...)
	_, eGo := items.Go(g, everyItem(g), firstRule+1)
	a, eBuild := items.Build(g)
	for _, why := range []api.Errno{e, eAll, eGo, eBuild} {
		if why != api.OK && why != api.ErrFull && why != api.ErrStates {
			t.Error(e, eAll, eGo, eBuild)
		}
	}
	if eBuild == api.OK && items.Right(g, a) != api.OK {
		t.Error("Build is not Right")
	}
	return len(c)
}

// Rules that make the empty row, each 64 times in the rule ahead, with a kind of its own each.
func TestLargeNullable(t *testing.T) {
	g := largest(func(n int) []int {
		if n%2 == 1 {
			return []int{2 + n/2%1022}
		}
		if n/2 == api.MaxRules-1 {
			return nil
		}
		return slices.Repeat([]int{firstRule + n/2 + 1}, 64)
	})
	if n := endsSoon(t, g); n != 0 {
		t.Error(n)
	}
}

// All rules in one ring, forwards and backwards, with much and with nothing behind.
func TestLargeRings(t *testing.T) {
	for _, step := range []int{1, api.MaxRules - 1, 31} {
		for _, length := range []int{1, 2, 64} {
			g := largest(func(n int) []int {
				if n%2 == 1 {
					return nil
				}
				var l []int
				for k := range length {
					l = append(l, firstRule+(n/2+step*(k+1))%api.MaxRules)
				}
				return l
			})
			if n := endsSoon(t, g); n != api.MaxProds+1 {
				t.Error(step, length, n)
			}
		}
	}
}

// Looks that come one by one through a ring of rules, as late as can be.
func TestLargeLateLooks(t *testing.T) {
	g := plain(64)
	for rule := range 64 {
		g.Prods = append(g.Prods, api.Prod{Left: rule, Right: []int{firstRule + (rule+63)%64}}, api.Prod{Left: rule, Right: []int{firstRule + (rule+63)%64, 2 + rule}})
	}
	if n := endsSoon(t, g); n != 64*2*65+1 {
		t.Error(n)
	}
}
