package derive_test

import (
	"fmt"
	"slices"
	"strings"
	"testing"

	"quoin/api"
	"quoin/derive"
)

// The chapter's words by the letter: a piece is cut in all ways, and counted anew till nothing is new; a row is gone on with by a row of any kinds; rules are replaced in a row of symbols.

// read is the grammar of a text: productions and names, with `;` between. Words that begin with a capital letter are rules, in the order in which they come; the others are kinds, by the alphabet, behind `end` and `error`. The start is the first rule.
func read(text string) api.Plain {
	g := api.Plain{Kinds: []string{"end", "error"}}
	words := strings.Fields(strings.NewReplacer(";", " ", "=", " ").Replace(text))
	for _, w := range words {
		if isCapital(w) && !slices.Contains(g.Rules, w) {
			g.Rules = append(g.Rules, w)
		}
	}
	slices.Sort(words)
	for _, w := range words {
		if !isCapital(w) && !slices.Contains(g.Kinds, w) {
			g.Kinds = append(g.Kinds, w)
		}
	}
	g.Precs = make([]api.Prec, len(g.Kinds))
	for _, piece := range strings.Split(text, ";") {
		left, right, is := strings.Cut(piece, "=")
		if is {
			g.Prods = append(g.Prods, api.Prod{Left: slices.Index(g.Rules, strings.TrimSpace(left)), Right: symbols(g, right)})
		}
	}
	return g
}

func isCapital(word string) bool { return 'A' <= word[0] && word[0] <= 'Z' }

// symbols are the numbers of names.
func symbols(g api.Plain, names string) []int {
	var l []int
	for _, w := range strings.Fields(names) {
		if isCapital(w) {
			l = append(l, len(g.Kinds)+slices.Index(g.Rules, w))
		} else {
			l = append(l, slices.Index(g.Kinds, w))
		}
	}
	return l
}

// lines are a grammar's productions, by names.
func lines(g api.Plain) string {
	var l []string
	for _, p := range g.Prods {
		var words []string
		for _, x := range p.Right {
			words = append(words, slices.Concat(g.Kinds, g.Rules)[x])
		}
		l = append(l, g.Rules[p.Left]+" = "+strings.Join(words, " "))
	}
	return strings.Join(l, "; ") + " (" + g.Rules[g.Start] + ")"
}

// treeText is a tree: of a leaf its place, of a node its rule's name, its production, and its kids.
func treeText(g api.Plain, d api.Deriv) string {
	if d.Prod == -1 {
		return fmt.Sprint(d.Tok)
	}
	var kids []string
	for _, k := range d.Kids {
		kids = append(kids, treeText(g, k))
	}
	return fmt.Sprintf("%s%d(%s)", g.Rules[g.Prods[d.Prod].Left], d.Prod, strings.Join(kids, " "))
}

// told is a value as text; an empty list is told as none is.
func told(x any) string { return fmt.Sprintf("%+v", x) }

// wordRule is a symbol's rule; below 0 of a kind.
func wordRule(g api.Plain, symbol int) int { return symbol - len(g.Kinds) }

// words is what is known of a row's pieces: of each rule, from and to.
type words struct {
	g       api.Plain
	row     []int
	counts  map[[3]int]int // how often it derives the piece: 1, or 2 for more
	heights map[[3]int]int
}

// newWords counts derivations of at most one rule above one another, of at most two, and so on, till there are no more.
func newWords(g api.Plain, row []int) *words {
	w := &words{g: g, row: row, counts: map[[3]int]int{}, heights: map[[3]int]int{}}
	for height, isNew := 1, true; isNew; height++ {
		isNew = false
		more := map[[3]int]int{}
		for rule := range g.Rules {
			for from := range len(row) + 1 {
				for to := from; to <= len(row); to++ {
					at := [3]int{rule, from, to}
					n := w.count(rule, from, to)
					if n > 0 {
						more[at] = n
					}
					if n > 0 && w.heights[at] == 0 {
						w.heights[at] = height
					}
					isNew = isNew || n != w.counts[at]
				}
			}
		}
		w.counts = more
	}
	return w
}

// count is how many derivations of a piece there are by what is known of smaller ones, at most 2.
func (w *words) count(rule, from, to int) int {
	n := 0
	for _, p := range w.g.Prods {
		if p.Left == rule {
			n += w.countRow(p.Right, from, to)
		}
	}
	return min(n, 2)
}

// countRow is how often a row of symbols derives a piece, at most 2.
func (w *words) countRow(right []int, from, to int) int {
	n := 0
	for _, ends := range cuts(from, to, len(right)) {
		ways := 1
		at := from
		for i, symbol := range right {
			ways = min(ways*w.countSymbol(symbol, at, ends[i]), 2)
			at = ends[i]
		}
		n += ways
	}
	return min(n, 2)
}

func (w *words) countSymbol(symbol, from, to int) int {
	if rule := wordRule(w.g, symbol); rule >= 0 {
		return w.counts[[3]int{rule, from, to}]
	}
	if to == from+1 && w.row[from] == symbol {
		return 1
	}
	return 0
}

// cuts are all ways to cut a piece into so many: the ends of them, those with the shortest first piece first, and so on.
func cuts(from, to, pieces int) [][]int {
	if pieces == 0 {
		if from == to {
			return [][]int{nil}
		}
		return nil
	}
	var l [][]int
	for end := from; end <= to; end++ {
		for _, rest := range cuts(end, to, pieces-1) {
			l = append(l, append([]int{end}, rest...))
		}
	}
	return l
}

// parts is how many parts the chart has.
func (w *words) parts() int {
	n := len(w.counts)
	for _, p := range w.g.Prods {
		for dot := 1; dot < len(p.Right); dot++ {
			for from := range len(w.row) + 1 {
				for to := from; to <= len(w.row); to++ {
					if w.countRow(p.Right[:dot], from, to) > 0 {
						n++
					}
				}
			}
		}
	}
	return n
}

// tree is the derivation by heights of a piece that a rule derives.
func (w *words) tree(rule, from, to int) api.Deriv {
	for prod, p := range w.g.Prods {
		if p.Left != rule {
			continue
		}
		for _, ends := range cuts(from, to, len(p.Right)) {
			if w.isLower(p.Right, from, ends, w.heights[[3]int{rule, from, to}]) {
				return w.node(prod, from, ends)
			}
		}
	}
	panic("the test is wrong")
}

// isLower tells whether symbols derive their pieces, the rules with lesser heights.
func (w *words) isLower(right []int, from int, ends []int, height int) bool {
	for i, symbol := range right {
		if w.countSymbol(symbol, from, ends[i]) == 0 {
			return false
		}
		if rule := wordRule(w.g, symbol); rule >= 0 && w.heights[[3]int{rule, from, ends[i]}] >= height {
			return false
		}
		from = ends[i]
	}
	return true
}

func (w *words) node(prod, from int, ends []int) api.Deriv {
	d := api.Deriv{Prod: prod}
	for i, symbol := range w.g.Prods[prod].Right {
		if rule := wordRule(w.g, symbol); rule >= 0 {
			d.Kids = append(d.Kids, w.tree(rule, from, ends[i]))
		} else {
			d.Kids = append(d.Kids, api.Deriv{Prod: -1, Tok: from})
		}
		from = ends[i]
	}
	return d
}

// wordViable tells whether a row can be gone on to one that is derived: behind its end any kinds may come. Places are states of a machine that stays at the last one by each kind.
func wordViable(g api.Plain, row []int) bool {
	last := len(row)
	is := map[[3]int]bool{} // rule, from, to
	var leads func(right []int, from, to int) bool
	leads = func(right []int, from, to int) bool {
		if len(right) == 0 {
			return from == to
		}
		for mid := from; mid <= to; mid++ {
			isStep := mid == from+1 && row[from] == right[0] || from == last && mid == last
			if rule := wordRule(g, right[0]); rule >= 0 {
				isStep = is[[3]int{rule, from, mid}]
			}
			if isStep && leads(right[1:], mid, to) {
				return true
			}
		}
		return false
	}
	for isNew := true; isNew; {
		isNew = false
		for _, p := range g.Prods {
			for from := range last + 1 {
				for to := from; to <= last; to++ {
					if at := [3]int{p.Left, from, to}; !is[at] && leads(p.Right, from, to) {
						is[at], isNew = true, true
					}
				}
			}
		}
	}
	return is[[3]int{g.Start, 0, last}]
}

// wordLongest is the longest beginning that is a viable prefix; -1, if there is none.
func wordLongest(g api.Plain, row []int) int {
	for n := len(row); n >= 0; n-- {
		if wordViable(g, row[:n]) {
			return n
		}
	}
	return -1
}

// wordLeaf tells whether a tree is a leaf.
func wordLeaf(d api.Deriv) bool { return d.Prod == -1 && len(d.Kids) == 0 }

// wordCheck tells whether a tree stands for a symbol over the row from a place on, and where it ends.
func wordCheck(g api.Plain, symbol int, d api.Deriv, row []int, from int) (int, bool) {
	if wordRule(g, symbol) < 0 {
		return from + 1, wordLeaf(d) && d.Tok == from && from < len(row) && row[from] == symbol
	}
	if d.Prod < 0 || d.Prod >= len(g.Prods) || d.Tok != 0 {
		return 0, false
	}
	p := g.Prods[d.Prod]
	if p.Left != wordRule(g, symbol) || len(d.Kids) != len(p.Right) {
		return 0, false
	}
	for i, k := range d.Kids {
		end, is := wordCheck(g, p.Right[i], k, row, from)
		if !is {
			return 0, false
		}
		from = end
	}
	return from, true
}

func wordIsDerivation(g api.Plain, d api.Deriv, row []int) bool {
	end, is := wordCheck(g, len(g.Kinds)+g.Start, d, row, 0)
	return is && end == len(row)
}

// wordYield are the kinds of a tree's leaves; false, if it is none by its shape.
func wordYield(g api.Plain, d api.Deriv) ([]int, bool) {
	if d.Prod < 0 || d.Prod >= len(g.Prods) || len(d.Kids) != len(g.Prods[d.Prod].Right) {
		return nil, false
	}
	var row []int
	for i, symbol := range g.Prods[d.Prod].Right {
		k := d.Kids[i]
		if wordRule(g, symbol) < 0 {
			if !wordLeaf(k) {
				return nil, false
			}
			row = append(row, symbol)
			continue
		}
		l, is := wordYield(g, k)
		if !is || g.Prods[k.Prod].Left != wordRule(g, symbol) {
			return nil, false
		}
		row = append(row, l...)
	}
	return row, true
}

// wordLowest is the production of a rule that derives something with the least height; -1, if none does.
func wordLowest(g api.Plain, rule int) int {
	heights := make([]int, len(g.Rules)) // 0: not known
	heightOf := func(p api.Prod) (int, bool) {
		height := 1
		for _, x := range p.Right {
			if wordRule(g, x) >= 0 && heights[wordRule(g, x)] == 0 {
				return 0, false
			}
			if wordRule(g, x) >= 0 {
				height = max(height, 1+heights[wordRule(g, x)])
			}
		}
		return height, true
	}
	for isNew := true; isNew; {
		isNew = false
		for _, p := range g.Prods {
			if height, is := heightOf(p); is && (heights[p.Left] == 0 || height < heights[p.Left]) {
				heights[p.Left], isNew = height, true
			}
		}
	}
	least := -1
	for prod, p := range g.Prods {
		height, is := heightOf(p)
		if p.Left != rule || !is {
			continue
		}
		if before := 0; least >= 0 {
			before, _ = heightOf(g.Prods[least])
			if before <= height {
				continue
			}
		}
		least = prod
	}
	return least
}

// wordSentence replaces rules in a row of symbols, from the left.
func wordSentence(g api.Plain, prods []int, most int) ([]int, api.Deriv, api.Errno) {
	row := []int{len(g.Kinds) + g.Start}
	var used []int
	for {
		at := slices.IndexFunc(row, func(x int) bool { return wordRule(g, x) >= 0 })
		if at < 0 && len(row) <= api.MaxToks {
			d, _ := treeOf(g, len(g.Kinds)+g.Start, used, new(int))
			return row, d, api.OK
		}
		if at < 0 || at > api.MaxToks {
			return nil, api.Deriv{}, api.ErrChart
		}
		prod := wordLowest(g, wordRule(g, row[at]))
		var own []int
		for i, p := range g.Prods {
			if p.Left == wordRule(g, row[at]) {
				own = append(own, i)
			}
		}
		if len(own) > 0 && len(used) < len(prods) && at < most {
			n := prods[len(used)]
			for n < 0 {
				n += len(own)
			}
			prod = own[n%len(own)]
		}
		if prod < 0 {
			return nil, api.Deriv{}, api.ErrNone
		}
		if len(used) == api.MaxToks {
			return nil, api.Deriv{}, api.ErrChart
		}
		used = append(used, prod)
		row = slices.Concat(row[:at], g.Prods[prod].Right, row[at+1:])
	}
}

// treeOf is the tree of the productions by which rules were replaced from the left, and those that are left.
func treeOf(g api.Plain, symbol int, used []int, tok *int) (api.Deriv, []int) {
	if wordRule(g, symbol) < 0 {
		*tok++
		return api.Deriv{Prod: -1, Tok: *tok - 1}, used
	}
	d := api.Deriv{Prod: used[0]}
	used = used[1:]
	for _, x := range g.Prods[d.Prod].Right {
		var k api.Deriv
		k, used = treeOf(g, x, used, tok)
		d.Kids = append(d.Kids, k)
	}
	return d, used
}

// likeWords holds all calls that take a row against the words.
func likeWords(t *testing.T, g api.Plain, row ...int) {
	t.Helper()
	w := newWords(g, row)
	root := [3]int{g.Start, 0, len(row)}
	if n, e := derive.Count(g, row...); n != w.counts[root] || e != api.OK {
		t.Fatal(lines(g), row, "Count:", n, e, "not", w.counts[root])
	}
	if n, e := derive.Parts(g, row...); n != w.parts() || e != api.OK {
		t.Fatal(lines(g), row, "Parts:", n, e, "not", w.parts())
	}
	if n, e := derive.Viable(g, row...); n != wordLongest(g, row) || e != api.OK {
		t.Fatal(lines(g), row, "Viable:", n, e, "not", wordLongest(g, row))
	}
	d, e := derive.Tree(g, row...)
	if w.counts[root] == 0 {
		if e != api.ErrNone || told(d) != told(api.Deriv{}) {
			t.Fatal(lines(g), row, "Tree:", d, e)
		}
		return
	}
	if want := w.tree(g.Start, 0, len(row)); e != api.OK || told(d) != told(want) {
		t.Fatal(lines(g), row, "Tree:", treeText(g, d), e, "not", treeText(g, want))
	}
	if l := derive.Yield(g, d); !derive.Check(g, d, row...) || !slices.Equal(l, row) {
		t.Fatal(lines(g), row, "Check, Yield:", treeText(g, d), l)
	}
}
