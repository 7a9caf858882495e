package items_test

import (
	"fmt"
	"slices"
	"strings"
	"testing"

	"quoin/api"
	"quoin/items"
)

// The chapter's words by the letter: states as lists that are searched from end to end, and gone over till nothing is new; automata as lists of these; ways as rows of symbols that are tried in their order.

// read is the grammar of a text: productions and names, with `;` between. Words that begin with a capital letter are rules, in the order in which they come; the others are kinds, by the alphabet, behind `end` and `error`. The start is the first rule.
func read(text string) api.Plain {
	g := api.Plain{Kinds: []string{"end", "error"}}
	words := strings.Fields(strings.NewReplacer(";", " ", "=", " ").Replace(text))
	for _, w := range words {
		if isCapital(w) && !slices.Contains(g.Rules, w) {
			g.Rules = append(g.Rules, w)
		}
	}
	slices.Sort(words)
	for _, w := range words {
		if !isCapital(w) && !slices.Contains(g.Kinds, w) {
			g.Kinds = append(g.Kinds, w)
		}
	}
	g.Precs = make([]api.Prec, len(g.Kinds))
	for _, piece := range strings.Split(text, ";") {
		left, right, is := strings.Cut(piece, "=")
		if is {
			g.Prods = append(g.Prods, api.Prod{Left: slices.Index(g.Rules, strings.TrimSpace(left)), Right: symbols(g, right)})
		}
	}
	return g
}

func isCapital(word string) bool { return 'A' <= word[0] && word[0] <= 'Z' }

// symbols are the numbers of names.
func symbols(g api.Plain, names string) []int {
	var l []int
	for _, w := range strings.Fields(names) {
		l = append(l, slices.Index(slices.Concat(g.Kinds, g.Rules), w))
	}
	return l
}

// text is a grammar's productions, by names.
func text(g api.Plain) string {
	var l []string
	for p := range g.Prods {
		l = append(l, strings.Join(names(g, p), " "))
	}
	return strings.Join(l, "; ") + " (" + g.Rules[g.Start] + ")"
}

// names are those of a production's rule, `=`, and its symbols.
func names(g api.Plain, prod int) []string {
	l := []string{"start", "="}
	if prod < len(g.Prods) {
		l[0] = g.Rules[g.Prods[prod].Left]
	}
	for _, x := range wordRight(g, prod) {
		l = append(l, slices.Concat(g.Kinds, g.Rules)[x])
	}
	return l
}

// told is a value as text; an empty list is told as none is.
func told(x any) string { return fmt.Sprintf("%+v", x) }

// state are items, by their numbers.
func state(l ...[3]int) []api.Item {
	var made []api.Item
	for _, i := range l {
		made = append(made, api.Item{Prod: i[0], Dot: i[1], Look: i[2]})
	}
	return made
}

func startItem(g api.Plain) api.Item { return api.Item{Prod: len(g.Prods), Look: api.KindEnd} }

func size(g api.Plain) int { return len(g.Kinds) + len(g.Rules) }

// wordRight is a production's right side, the start's too.
func wordRight(g api.Plain, prod int) []int {
	if prod == len(g.Prods) {
		return []int{len(g.Kinds) + g.Start}
	}
	return g.Prods[prod].Right
}

func wordIsItem(g api.Plain, i api.Item) bool {
	for prod := range len(g.Prods) + 1 {
		for dot := range len(wordRight(g, prod)) + 1 {
			for look := range g.Kinds {
				if i == (api.Item{Prod: prod, Dot: dot, Look: look}) {
					return true
				}
			}
		}
	}
	return false
}

func areWordItems(g api.Plain, l []api.Item) bool {
	return !slices.ContainsFunc(l, func(i api.Item) bool { return !wordIsItem(g, i) })
}

// firsts are the kinds with which rows begin that rules make, and noKind, if a rule makes the empty one.
type firsts [][]int

const noKind = -1

func wordFirsts(g api.Plain) firsts {
	f := make(firsts, len(g.Rules))
	for isNew := true; isNew; {
		isNew = false
		for _, p := range g.Prods {
			for _, kind := range f.of(g, p.Right) {
				if !slices.Contains(f[p.Left], kind) {
					f[p.Left] = append(f[p.Left], kind)
					isNew = true
				}
			}
		}
	}
	return f
}

// of are the kinds with which rows begin that a row makes, and noKind, if it makes the empty one.
func (f firsts) of(g api.Plain, row []int) []int {
	if len(row) == 0 {
		return []int{noKind}
	}
	if row[0] < len(g.Kinds) {
		return row[:1]
	}
	var l []int
	for _, kind := range f[row[0]-len(g.Kinds)] {
		if kind == noKind {
			l = append(l, f.of(g, row[1:])...)
		} else {
			l = append(l, kind)
		}
	}
	return l
}

// words is a grammar with what its words need.
type words struct {
	api.Plain
	firsts firsts
}

func wordsOf(g api.Plain) words { return words{g, wordFirsts(g)} }

// asked are the items that must be in a closed state by one that is.
func (w words) asked(i api.Item) []api.Item {
	right := wordRight(w.Plain, i.Prod)
	if i.Dot == len(right) || right[i.Dot] < len(w.Kinds) {
		return nil
	}
	var l []api.Item
	for prod, p := range w.Prods {
		if p.Left != right[i.Dot]-len(w.Kinds) {
			continue
		}
		for _, look := range w.firsts.of(w.Plain, right[i.Dot+1:]) {
			if look == noKind {
				look = i.Look
			}
			l = append(l, api.Item{Prod: prod, Look: look})
		}
	}
	return l
}

// wordOrder is items, each once, rising.
func wordOrder(l []api.Item) []api.Item {
	var made []api.Item
	for _, i := range l {
		if !slices.Contains(made, i) {
			made = append(made, i)
		}
	}
	slices.SortFunc(made, func(a, b api.Item) int {
		if a.Prod != b.Prod {
			return a.Prod - b.Prod
		}
		if a.Dot != b.Dot {
			return a.Dot - b.Dot
		}
		return a.Look - b.Look
	})
	return made
}

func (w words) closure(l ...api.Item) []api.Item {
	l = wordOrder(l)
	for at := 0; at < len(l); at++ {
		for _, i := range w.asked(l[at]) {
			if !slices.Contains(l, i) {
				l = append(l, i)
			}
		}
	}
	return wordOrder(l)
}

func (w words) goOn(state []api.Item, symbol int) []api.Item {
	var l []api.Item
	for _, i := range state {
		if right := wordRight(w.Plain, i.Prod); i.Dot < len(right) && right[i.Dot] == symbol {
			l = append(l, api.Item{Prod: i.Prod, Dot: i.Dot + 1, Look: i.Look})
		}
	}
	return w.closure(l...)
}

func (w words) kernel(state []api.Item) []api.Item {
	return wordOrder(slices.DeleteFunc(slices.Clone(state), func(i api.Item) bool { return i.Dot == 0 && i.Prod != len(w.Prods) }))
}

// auto is the automaton whose first state is the closure of items; false, if it has more than so many states.
func (w words) auto(most int, l ...api.Item) (api.Auto, bool) {
	a := api.Auto{States: [][]api.Item{w.closure(l...)}}
	for s := 0; s < len(a.States); s++ {
		var row []int
		for x := range size(w.Plain) {
			to := w.goOn(a.States[s], x)
			n := slices.IndexFunc(a.States, func(l []api.Item) bool { return slices.Equal(l, to) })
			if len(to) > 0 && n < 0 {
				n = len(a.States)
				a.States = append(a.States, to)
			}
			row = append(row, n)
		}
		a.Next = append(a.Next, row)
		if len(a.States) > most {
			return api.Auto{}, false
		}
	}
	return a, true
}

func (w words) isClosed(state []api.Item) bool {
	for _, i := range state {
		for _, j := range w.asked(i) {
			if !slices.Contains(state, j) {
				return false
			}
		}
	}
	return true
}

// isState tells whether items are a state that an automaton may have.
func (w words) isState(l []api.Item) bool {
	return len(l) > 0 && len(l) <= api.MaxItems && areWordItems(w.Plain, l) && slices.Equal(wordOrder(l), l) && w.isClosed(l)
}

// isRight is J3.
func (w words) isRight(a api.Auto) bool {
	count := 0
	for _, state := range a.States {
		count += len(state)
	}
	if len(a.States) < 1 || len(a.States) > api.MaxStates || count > api.MaxAll || len(a.Next) != len(a.States) {
		return false
	}
	for s, state := range a.States {
		if !w.isState(state) || len(a.Next[s]) != size(w.Plain) {
			return false
		}
	}
	if !slices.Contains(a.States[0], startItem(w.Plain)) {
		return false
	}
	for s := range a.States {
		for x, to := range a.Next[s] {
			if !w.leads(a, s, x, to) {
				return false
			}
		}
	}
	return true
}

// leads tells whether a state may go on by a symbol to that one.
func (w words) leads(a api.Auto, s, x, to int) bool {
	on := w.goOn(a.States[s], x)
	if to == -1 {
		return len(on) == 0
	}
	if to < 0 || to >= len(a.States) || len(on) == 0 {
		return false
	}
	for _, i := range on {
		if !slices.Contains(a.States[to], i) {
			return false
		}
	}
	for _, i := range w.kernel(a.States[to]) {
		if !slices.ContainsFunc(on, func(j api.Item) bool { return i.Prod == j.Prod && i.Dot == j.Dot }) {
			return false
		}
	}
	return true
}

// wordPath tries all rows, the short ones first.
func wordPath(a api.Auto, state int) ([]int, bool) {
	for length := range len(a.States) {
		if row, is := wordRow(a, 0, state, length); is {
			return row, true
		}
	}
	return nil, false
}

// wordRow is the least row of a length that leads from one state to another.
func wordRow(a api.Auto, from, state, length int) ([]int, bool) {
	if length == 0 {
		return nil, from == state
	}
	for x, to := range a.Next[from] {
		if to < 0 {
			continue
		}
		if row, is := wordRow(a, to, state, length-1); is {
			return append([]int{x}, row...), true
		}
	}
	return nil, false
}

func wordLines(g api.Plain, l []api.Item) []string {
	var made []string
	for _, i := range wordOrder(l) {
		words := slices.Insert(names(g, i.Prod), 2+i.Dot, ".")
		made = append(made, strings.Join(append(words, ",", g.Kinds[i.Look]), " "))
	}
	return made
}

// likeWords holds the calls that take items at some that may be.
func likeWords(t *testing.T, g api.Plain, l ...api.Item) {
	t.Helper()
	w := wordsOf(g)
	if e := items.Check(g, l...); e != api.OK {
		t.Fatal(text(g), l, "Check:", e)
	}
	if got, e := items.Closure(g, l...); e != api.OK || !slices.Equal(got, w.closure(l...)) {
		t.Fatal(text(g), l, "Closure:", got, e, "not", w.closure(l...))
	}
	if got, e := items.Kernel(g, l); e != api.OK || !slices.Equal(got, w.kernel(l)) {
		t.Fatal(text(g), l, "Kernel:", got, e, "not", w.kernel(l))
	}
	if got, e := items.Lines(g, l...); e != api.OK || !slices.Equal(got, wordLines(g, l)) {
		t.Fatal(text(g), l, "Lines:", got, e, "not", wordLines(g, l))
	}
	for x := -2; x < size(g)+3; x++ {
		var want []api.Item
		wantE := api.ErrArg
		if 1 <= x && x < size(g) {
			want, wantE = w.goOn(l, x), api.OK
		}
		if got, e := items.Go(g, l, x); e != wantE || !slices.Equal(got, want) {
			t.Fatal(text(g), l, "Go by", x, ":", got, e, "not", want, wantE)
		}
	}
}

// likeBuild holds Build against the words; false, if they lead too far.
func likeBuild(t *testing.T, g api.Plain) (api.Auto, bool) {
	t.Helper()
	want, is := wordsOf(g).auto(60, startItem(g))
	if !is {
		return want, false
	}
	a, e := items.Build(g)
	if e != api.OK || told(a) != told(want) {
		t.Fatalf("%s: %+v, %v, not %+v", text(g), a, e, want)
	}
	return a, true
}

// likeRight holds Right against the words: whether it is.
func likeRight(t *testing.T, g api.Plain, a api.Auto) bool {
	t.Helper()
	is := wordsOf(g).isRight(a)
	want := api.OK
	if !is {
		want = api.ErrAuto
	}
	if e := items.Right(g, a); e != want {
		t.Fatalf("%s: %+v: %v, not %v", text(g), a, e, want)
	}
	return is
}
