package pager_test

import (
	"fmt"
	"slices"
	"strings"
	"testing"

	"quoin/api"
	"quoin/pager"
)

// The chapter's words by the letter: states as lists that are searched from end to end and gone over till nothing is new; Looks as those of a list's items; what is to do as a mark at each state.

// read is the grammar of a text: productions and names, with `;` between. Words that begin with a capital letter are rules, in the order in which they come; the others are kinds, by the alphabet, behind `end` and `error`. The start is the first rule.
func read(text string) api.Plain {
	g := api.Plain{Kinds: []string{"end", "error"}}
	words := strings.Fields(strings.NewReplacer(";", " ", "=", " ").Replace(text))
	for _, w := range words {
		if isCapital(w) && !slices.Contains(g.Rules, w) {
			g.Rules = append(g.Rules, w)
		}
	}
	slices.Sort(words)
	for _, w := range words {
		if !isCapital(w) && !slices.Contains(g.Kinds, w) {
			g.Kinds = append(g.Kinds, w)
		}
	}
	g.Precs = make([]api.Prec, len(g.Kinds))
	for _, piece := range strings.Split(text, ";") {
		left, right, is := strings.Cut(piece, "=")
		if is {
			g.Prods = append(g.Prods, api.Prod{Left: slices.Index(g.Rules, strings.TrimSpace(left)), Right: symbols(g, right)})
		}
	}
	return g
}

func isCapital(word string) bool { return 'A' <= word[0] && word[0] <= 'Z' }

// symbols are the numbers of names.
func symbols(g api.Plain, names string) []int {
	var l []int
	for _, w := range strings.Fields(names) {
		l = append(l, slices.Index(slices.Concat(g.Kinds, g.Rules), w))
	}
	return l
}

// text is a grammar's productions, by names.
func text(g api.Plain) string {
	var l []string
	for p := range g.Prods {
		l = append(l, strings.Join(names(g, p), " "))
	}
	return strings.Join(l, "; ") + " (" + g.Rules[g.Start] + ")"
}

// names are those of a production's rule, `=`, and its symbols.
func names(g api.Plain, prod int) []string {
	l := []string{"start", "="}
	if prod < len(g.Prods) {
		l[0] = g.Rules[g.Prods[prod].Left]
	}
	for _, x := range wordRight(g, prod) {
		l = append(l, slices.Concat(g.Kinds, g.Rules)[x])
	}
	return l
}

// told is a value as text; an empty list is told as none is.
func told(x any) string { return fmt.Sprintf("%+v", x) }

// state are items, by their numbers.
func state(l ...[3]int) []api.Item {
	var made []api.Item
	for _, i := range l {
		made = append(made, api.Item{Prod: i[0], Dot: i[1], Look: i[2]})
	}
	return made
}

func startItem(g api.Plain) api.Item { return api.Item{Prod: len(g.Prods), Look: api.KindEnd} }

func size(g api.Plain) int { return len(g.Kinds) + len(g.Rules) }

// wordRight is a production's right side, the start's too.
func wordRight(g api.Plain, prod int) []int {
	if prod == len(g.Prods) {
		return []int{len(g.Kinds) + g.Start}
	}
	return g.Prods[prod].Right
}

func wordIsItem(g api.Plain, i api.Item) bool {
	for prod := range len(g.Prods) + 1 {
		for dot := range len(wordRight(g, prod)) + 1 {
			for look := range g.Kinds {
				if i == (api.Item{Prod: prod, Dot: dot, Look: look}) {
					return true
				}
			}
		}
	}
	return false
}

func areWordItems(g api.Plain, l []api.Item) bool {
	return !slices.ContainsFunc(l, func(i api.Item) bool { return !wordIsItem(g, i) })
}

// firsts are the kinds with which rows begin that rules make, and noKind, if a rule makes the empty one.
type firsts [][]int

const noKind = -1

func wordFirsts(g api.Plain) firsts {
	f := make(firsts, len(g.Rules))
	for isNew := true; isNew; {
		isNew = false
		for _, p := range g.Prods {
			for _, kind := range f.of(g, p.Right) {
				if !slices.Contains(f[p.Left], kind) {
					f[p.Left] = append(f[p.Left], kind)
					isNew = true
				}
			}
		}
	}
	return f
}

// of are the kinds with which rows begin that a row makes, and noKind, if it makes the empty one.
func (f firsts) of(g api.Plain, row []int) []int {
	if len(row) == 0 {
		return []int{noKind}
	}
	if row[0] < len(g.Kinds) {
		return row[:1]
	}
	var l []int
	for _, kind := range f[row[0]-len(g.Kinds)] {
		if kind == noKind {
			l = append(l, f.of(g, row[1:])...)
		} else {
			l = append(l, kind)
		}
	}
	return l
}

// words is a grammar with what its words need.
type words struct {
	api.Plain
	firsts firsts
}

func wordsOf(g api.Plain) words { return words{g, wordFirsts(g)} }

// asked are the items that must be in a closed state by one that is.
func (w words) asked(i api.Item) []api.Item {
	right := wordRight(w.Plain, i.Prod)
	if i.Dot == len(right) || right[i.Dot] < len(w.Kinds) {
		return nil
	}
	var l []api.Item
	for prod, p := range w.Prods {
		if p.Left != right[i.Dot]-len(w.Kinds) {
			continue
		}
		for _, look := range w.firsts.of(w.Plain, right[i.Dot+1:]) {
			if look == noKind {
				look = i.Look
			}
			l = append(l, api.Item{Prod: prod, Look: look})
		}
	}
	return l
}

// wordOrder is items, each once, rising.
func wordOrder(l []api.Item) []api.Item {
	var made []api.Item
	for _, i := range l {
		if !slices.Contains(made, i) {
			made = append(made, i)
		}
	}
	slices.SortFunc(made, func(a, b api.Item) int {
		if a.Prod != b.Prod {
			return a.Prod - b.Prod
		}
		if a.Dot != b.Dot {
			return a.Dot - b.Dot
		}
		return a.Look - b.Look
	})
	return made
}

func (w words) closure(l ...api.Item) []api.Item {
	l = wordOrder(l)
	for at := 0; at < len(l); at++ {
		for _, i := range w.asked(l[at]) {
			if !slices.Contains(l, i) {
				l = append(l, i)
			}
		}
	}
	return wordOrder(l)
}

func (w words) goOn(state []api.Item, symbol int) []api.Item {
	var l []api.Item
	for _, i := range state {
		if right := wordRight(w.Plain, i.Prod); i.Dot < len(right) && right[i.Dot] == symbol {
			l = append(l, api.Item{Prod: i.Prod, Dot: i.Dot + 1, Look: i.Look})
		}
	}
	return w.closure(l...)
}

func (w words) kernel(state []api.Item) []api.Item {
	return wordOrder(slices.DeleteFunc(slices.Clone(state), func(i api.Item) bool { return i.Dot == 0 && i.Prod != len(w.Prods) }))
}

// auto is the automaton whose first state is the closure of items; false, if it has more than so many states.
func (w words) auto(most int, l ...api.Item) (api.Auto, bool) {
	a := api.Auto{States: [][]api.Item{w.closure(l...)}}
	for s := 0; s < len(a.States); s++ {
		var row []int
		for x := range size(w.Plain) {
			to := w.goOn(a.States[s], x)
			n := slices.IndexFunc(a.States, func(l []api.Item) bool { return slices.Equal(l, to) })
			if len(to) > 0 && n < 0 {
				n = len(a.States)
				a.States = append(a.States, to)
			}
			row = append(row, n)
		}
		a.Next = append(a.Next, row)
		if len(a.States) > most {
			return api.Auto{}, false
		}
	}
	return a, true
}

func (w words) isClosed(state []api.Item) bool {
	for _, i := range state {
		for _, j := range w.asked(i) {
			if !slices.Contains(state, j) {
				return false
			}
		}
	}
	return true
}

// isState tells whether items are a state that an automaton may have.
func (w words) isState(l []api.Item) bool {
	return len(l) > 0 && len(l) <= api.MaxItems && areWordItems(w.Plain, l) && slices.Equal(wordOrder(l), l) && w.isClosed(l)
}

// isRight is J3.
func (w words) isRight(a api.Auto) bool {
	count := 0
	for _, state := range a.States {
		count += len(state)
	}
	if len(a.States) < 1 || len(a.States) > api.MaxStates || count > api.MaxAll || len(a.Next) != len(a.States) {
		return false
	}
	for s, state := range a.States {
		if !w.isState(state) || len(a.Next[s]) != size(w.Plain) {
			return false
		}
	}
	if !slices.Contains(a.States[0], startItem(w.Plain)) {
		return false
	}
	for s := range a.States {
		for x, to := range a.Next[s] {
			if !w.leads(a, s, x, to) {
				return false
			}
		}
	}
	return true
}

// leads tells whether a state may go on by a symbol to that one.
func (w words) leads(a api.Auto, s, x, to int) bool {
	on := w.goOn(a.States[s], x)
	if to == -1 {
		return len(on) == 0
	}
	if to < 0 || to >= len(a.States) || len(on) == 0 {
		return false
	}
	for _, i := range on {
		if !slices.Contains(a.States[to], i) {
			return false
		}
	}
	for _, i := range w.kernel(a.States[to]) {
		if !slices.ContainsFunc(on, func(j api.Item) bool { return i.Prod == j.Prod && i.Dot == j.Dot }) {
			return false
		}
	}
	return true
}

// spots are the items of a kernel without their Looks.
func spots(kernel []api.Item) []api.Item {
	l := slices.Clone(kernel)
	for n := range l {
		l[n].Look = 0
	}
	return wordOrder(l)
}

// looksOf are the Looks of a spot in a kernel.
func looksOf(kernel []api.Item, spot api.Item) []int {
	var l []int
	for _, i := range kernel {
		if i.Prod == spot.Prod && i.Dot == spot.Dot {
			l = append(l, i.Look)
		}
	}
	return l
}

func haveCommon(a, b []int) bool {
	return slices.ContainsFunc(a, func(n int) bool { return slices.Contains(b, n) })
}

// ways are by which of the three ways two unlike spots let two kernels be weakly compatible.
func ways(a, b []api.Item, p, q api.Item) [3]bool {
	return [3]bool{
		!haveCommon(looksOf(a, p), looksOf(b, q)) && !haveCommon(looksOf(a, q), looksOf(b, p)),
		haveCommon(looksOf(a, p), looksOf(a, q)),
		haveCommon(looksOf(b, p), looksOf(b, q)),
	}
}

func wordWeak(a, b []api.Item) bool {
	for _, p := range spots(a) {
		for _, q := range spots(a) {
			if p != q && ways(a, b, p, q) == [3]bool{} {
				return false
			}
		}
	}
	return true
}

func isSameCore(a, b []api.Item) bool { return slices.Equal(spots(a), spots(b)) }

func hasAll(l, of []api.Item) bool {
	return !slices.ContainsFunc(of, func(i api.Item) bool { return !slices.Contains(l, i) })
}

// wordState is a state of the automaton that is being merged.
type wordState struct {
	kernel []api.Item
	next   []int
	isToDo bool
}

// events are how often something happened while states were merged.
type events struct{ made, into, again, stays, others, news, itself, left, late int }

// merged is the merged automaton; false, if more than so many states are made.
func (w words) merged(most int) (api.Auto, events, bool) {
	var ev events
	l := []*wordState{w.newState([]api.Item{startItem(w.Plain)})}
	for {
		n := slices.IndexFunc(l, func(s *wordState) bool { return s.isToDo })
		if n < 0 {
			break
		}
		l[n].isToDo = false
		closure := w.closure(l[n].kernel...)
		for x := range size(w.Plain) {
			if k := w.kernel(w.goOn(closure, x)); len(k) > 0 {
				l = w.goTo(l, n, x, k, &ev)
			}
		}
		if len(l) > most {
			return api.Auto{}, ev, false
		}
	}
	ev.made = len(l)
	a := w.numbered(l)
	ev.left = len(l) - len(a.States)
	return a, ev, true
}

func (w words) newState(kernel []api.Item) *wordState {
	return &wordState{kernel: kernel, next: slices.Repeat([]int{-1}, size(w.Plain)), isToDo: true}
}

// goTo lets a state go on by a symbol to what has that kernel.
func (w words) goTo(l []*wordState, from, symbol int, k []api.Item, ev *events) []*wordState {
	s := l[from]
	until := s.next[symbol]
	if until >= 0 && hasAll(l[until].kernel, k) {
		return l
	}
	var others []int
	if until >= 0 {
		others = append(others, until)
	}
	for n := range l {
		if n != until {
			others = append(others, n)
		}
	}
	for _, n := range others {
		if !isSameCore(l[n].kernel, k) || !wordWeak(l[n].kernel, k) {
			continue
		}
		s.next[symbol] = n
		if !hasAll(l[n].kernel, k) {
			l[n].kernel = wordOrder(append(l[n].kernel, k...))
			count(&ev.again, !l[n].isToDo && n != from)
			count(&ev.itself, n == from)
			count(&ev.late, n < from)
			l[n].isToDo = true
			count(&ev.into, until < 0)
		}
		count(&ev.stays, n == until)
		count(&ev.others, until >= 0 && n != until)
		return l
	}
	count(&ev.news, until >= 0)
	s.next[symbol] = len(l)
	return append(l, w.newState(k))
}

func count(n *int, is bool) {
	if is {
		*n++
	}
}

// numbered are the states that are reached, as they are met.
func (w words) numbered(l []*wordState) api.Auto {
	met := []int{0}
	var a api.Auto
	for n := 0; n < len(met); n++ {
		s := l[met[n]]
		var row []int
		for _, to := range s.next {
			if to >= 0 && !slices.Contains(met, to) {
				met = append(met, to)
			}
			row = append(row, slices.Index(met, to))
		}
		a.Next = append(a.Next, row)
		a.States = append(a.States, w.closure(s.kernel...))
	}
	return a
}

// lalr is an automaton of which all states of one core are put together.
func (w words) lalr(a api.Auto) api.Auto {
	core := func(s int) []api.Item { return spots(w.kernel(a.States[s])) }
	var l []*wordState
	stands := map[int]int{}
	for s := range a.States {
		n := 0
		for told(core(n)) != told(core(s)) {
			n++
		}
		if n == s {
			stands[s] = len(l)
			l = append(l, &wordState{})
		}
		stands[s] = stands[n]
		l[stands[s]].kernel = wordOrder(append(l[stands[s]].kernel, a.States[s]...)) // all items: they are closed
	}
	for s := range a.States {
		var row []int
		for _, to := range a.Next[s] {
			if to >= 0 {
				to = stands[to]
			}
			row = append(row, to)
		}
		l[stands[s]].next = row
	}
	return w.numbered(l)
}

// wordCores is how many unlike cores states have.
func (w words) cores(a api.Auto) int {
	var met []string
	for _, state := range a.States {
		if core := told(spots(w.kernel(state))); !slices.Contains(met, core) {
			met = append(met, core)
		}
	}
	return len(met)
}

// likePair holds Weak and Unite against the words.
func likePair(t *testing.T, g api.Plain, a, b []api.Item) {
	t.Helper()
	w := wordsOf(g)
	k, l := w.kernel(a), w.kernel(b)
	want, wantAll, wantE := wordWeak(k, l), w.closure(append(slices.Clone(k), l...)...), api.OK
	if !isSameCore(k, l) {
		want, wantAll, wantE = false, nil, api.ErrArg
	}
	if got, e := pager.Weak(g, a, b); got != want || e != wantE {
		t.Fatal(text(g), a, b, "Weak:", got, e, "not", want, wantE)
	}
	if got, e := pager.Unite(g, a, b); !slices.Equal(got, wantAll) || e != wantE {
		t.Fatal(text(g), a, b, "Unite:", got, e, "not", wantAll, wantE)
	}
}

// likeBuild holds Build against the words; false, if they lead too far.
func likeBuild(t *testing.T, g api.Plain) (api.Auto, events, bool) {
	t.Helper()
	want, ev, is := wordsOf(g).merged(150)
	if !is {
		return want, ev, false
	}
	a, e := pager.Build(g)
	if e != api.OK || told(a) != told(want) {
		t.Fatalf("%s: %+v, %v, not %+v", text(g), a, e, want)
	}
	return a, ev, true
}

// likeLalr holds Lalr against the words; false, if they lead too far.
func likeLalr(t *testing.T, g api.Plain) (api.Auto, bool) {
	t.Helper()
	w := wordsOf(g)
	one, is := w.auto(150, startItem(g))
	if !is {
		return one, false
	}
	want := w.lalr(one)
	a, e := pager.Lalr(g)
	if e != api.OK || told(a) != told(want) {
		t.Fatalf("%s: %+v, %v, not %+v", text(g), a, e, want)
	}
	return a, true
}

// likeCores holds Cores against the words.
func likeCores(t *testing.T, g api.Plain, a api.Auto) int {
	t.Helper()
	want := wordsOf(g).cores(a)
	if n, e := pager.Cores(g, a); n != want || e != api.OK {
		t.Fatalf("%s: %+v: %d, %v, not %d", text(g), a, n, e, want)
	}
	return want
}
