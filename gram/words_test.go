package gram_test

import (
	"fmt"
	"slices"
	"strings"
	"testing"

	"quoin/api"
	"quoin/gram"
)

// The chapter's words by the letter: rows that make other rows are gone through one by one, up to a length; of greater grammars what is known is found by going over all productions till nothing is new.

// read is the grammar of a text: productions and names, with `;` between. Words that begin with a capital letter are rules, in the order in which they come; the others are kinds, by the alphabet, behind `end` and `error`. The start is the first rule.
func read(text string) api.Plain {
	g := api.Plain{Kinds: []string{"end", "error"}}
	words := strings.Fields(strings.NewReplacer(";", " ", "=", " ").Replace(text))
	slices.Sort(words)
	for _, w := range words {
		if !isCapital(w) && !slices.Contains(g.Kinds, w) {
			g.Kinds = append(g.Kinds, w)
		}
	}
	for _, w := range strings.Fields(strings.NewReplacer(";", " ", "=", " ").Replace(text)) {
		if isCapital(w) && !slices.Contains(g.Rules, w) {
			g.Rules = append(g.Rules, w)
		}
	}
	g.Precs = make([]api.Prec, len(g.Kinds))
	for _, piece := range strings.Split(text, ";") {
		left, right, is := strings.Cut(piece, "=")
		if is {
			g.Prods = append(g.Prods, api.Prod{Left: slices.Index(g.Rules, strings.TrimSpace(left)), Right: symbols(g, right)})
		}
	}
	return g
}

func isCapital(word string) bool { return 'A' <= word[0] && word[0] <= 'Z' }

// symbols are the numbers of names.
func symbols(g api.Plain, names string) []int {
	var l []int
	for _, w := range strings.Fields(names) {
		if isCapital(w) {
			l = append(l, len(g.Kinds)+slices.Index(g.Rules, w))
		} else {
			l = append(l, slices.Index(g.Kinds, w))
		}
	}
	return l
}

// names are symbols' names, with blanks between.
func names(g api.Plain, l []int) string {
	var words []string
	for _, x := range l {
		words = append(words, slices.Concat(g.Kinds, g.Rules)[x])
	}
	return strings.Join(words, " ")
}

// ruleNames are the names of the rules that are marked.
func ruleNames(g api.Plain, marked []bool) string {
	var words []string
	for i, is := range marked {
		if is {
			words = append(words, g.Rules[i])
		}
	}
	return strings.Join(words, " ")
}

// told is a value as text; an empty list is told as none is.
func told(x any) string { return fmt.Sprintf("%+v", x) }

// wordRule is a symbol's rule; -1 of a kind.
func wordRule(g api.Plain, symbol int) int { return max(symbol-len(g.Kinds), -1) }

func isKinds(g api.Plain, row []int) bool {
	return !slices.ContainsFunc(row, func(x int) bool { return wordRule(g, x) >= 0 })
}

// made are the rows of at most so many symbols that a row makes by rows of at most so many; itself is one of them. Rows are texts of a byte a symbol.
func made(g api.Plain, most int, from ...int) map[string]bool {
	first := textOf(from)
	found := map[string]bool{first: true}
	todo := []string{first}
	for len(todo) > 0 {
		row := todo[0]
		todo = todo[1:]
		for _, next := range steps(g, row) {
			if len(next) <= most && !found[next] {
				found[next] = true
				todo = append(todo, next)
			}
		}
	}
	return found
}

// steps are the rows that come of one by one step.
func steps(g api.Plain, row string) []string {
	var l []string
	for i := range len(row) {
		for _, p := range g.Prods {
			if p.Left == wordRule(g, int(row[i])) {
				l = append(l, row[:i]+textOf(p.Right)+row[i+1:])
			}
		}
	}
	return l
}

func textOf(row []int) string {
	var b strings.Builder
	for _, x := range row {
		b.WriteByte(byte(x))
	}
	return b.String()
}

func rowOf(text string) []int {
	var l []int
	for _, b := range []byte(text) {
		l = append(l, int(b))
	}
	return l
}

// beginning are the kinds with which some of the rows begin, rising.
func beginning(g api.Plain, rows map[string]bool) []int {
	var l []int
	for kind := range g.Kinds {
		for row := range rows {
			if row != "" && int(row[0]) == kind {
				l = append(l, kind)
				break
			}
		}
	}
	return l
}

// behind are the kinds that stand right behind a rule in some of the rows, rising.
func behind(g api.Plain, rows map[string]bool, rule int) []int {
	var l []int
	for kind := range g.Kinds {
		pair := textOf([]int{len(g.Kinds) + rule, kind})
		for row := range rows {
			if strings.Contains(row, pair) {
				l = append(l, kind)
				break
			}
		}
	}
	return l
}

// shortestKinds is how long the shortest row of kinds is; false, if there is none.
func shortestKinds(g api.Plain, rows map[string]bool) (int, bool) {
	least, is := 0, false
	for row := range rows {
		if isKinds(g, rowOf(row)) && (!is || len(row) < least) {
			least, is = len(row), true
		}
	}
	return least, is
}

// rowReport is what is known of a grammar by the rows of at most so many symbols that rules make, and Leasts.
func rowReport(g api.Plain, most int) (api.Report, []int) {
	var r api.Report
	var leasts []int
	top := made(g, most+2, len(g.Kinds)+g.Start, api.KindEnd)
	r.Reached = wordReached(g, everyProd)
	for rule := range g.Rules {
		symbol := len(g.Kinds) + rule
		rows := made(g, most, symbol)
		isCyclic := false
		for _, row := range steps(g, textOf([]int{symbol})) {
			isCyclic = isCyclic || made(g, most, rowOf(row)...)[textOf([]int{symbol})]
		}
		least, isProductive := shortestKinds(g, rows)
		r.Nullable = append(r.Nullable, rows[""])
		r.Productive = append(r.Productive, isProductive)
		r.Cyclic = append(r.Cyclic, isCyclic)
		r.First = append(r.First, beginning(g, rows))
		r.Follow = append(r.Follow, behind(g, top, rule))
		leasts = append(leasts, least)
	}
	return r, leasts
}

func everyProd(api.Prod) bool { return true }

// tillNothingIsNew goes over all productions, again and again; look tells whether something is new.
func tillNothingIsNew(g api.Plain, look func(p api.Prod) bool) {
	for isNew := true; isNew; {
		isNew = false
		for _, p := range g.Prods {
			isNew = look(p) || isNew
		}
	}
}

// wordReached are the rules to which Start leads by such productions.
func wordReached(g api.Plain, leads func(p api.Prod) bool) []bool {
	l := make([]bool, len(g.Rules))
	l[g.Start] = true
	tillNothingIsNew(g, func(p api.Prod) bool {
		isNew := false
		for _, x := range p.Right {
			if rule := wordRule(g, x); rule >= 0 && l[p.Left] && leads(p) && !l[rule] {
				l[rule], isNew = true, true
			}
		}
		return isNew
	})
	return l
}

// allMarked tells whether all rules of a row are marked.
func allMarked(g api.Plain, row []int, marked []bool) bool {
	return !slices.ContainsFunc(row, func(x int) bool { return wordRule(g, x) >= 0 && !marked[wordRule(g, x)] })
}

func hasKind(g api.Plain, row []int) bool {
	return slices.ContainsFunc(row, func(x int) bool { return wordRule(g, x) < 0 })
}

func wordProductive(g api.Plain) []bool {
	l := make([]bool, len(g.Rules))
	tillNothingIsNew(g, func(p api.Prod) bool {
		isNew := !l[p.Left] && allMarked(g, p.Right, l)
		l[p.Left] = l[p.Left] || isNew
		return isNew
	})
	return l
}

func wordNullable(g api.Plain) []bool {
	l := make([]bool, len(g.Rules))
	tillNothingIsNew(g, func(p api.Prod) bool {
		isNew := !l[p.Left] && !hasKind(g, p.Right) && allMarked(g, p.Right, l)
		l[p.Left] = l[p.Left] || isNew
		return isNew
	})
	return l
}

// wordCyclic: a rule makes another one alone, if that stands in one of its productions, and all else there makes the empty row.
func wordCyclic(g api.Plain) []bool {
	n, nullable := len(g.Rules), wordNullable(g)
	alone := make([][]bool, n)
	for i := range alone {
		alone[i] = make([]bool, n)
	}
	for _, p := range g.Prods {
		for i, x := range p.Right {
			others := slices.Concat(p.Right[:i], p.Right[i+1:])
			if wordRule(g, x) >= 0 && !hasKind(g, others) && allMarked(g, others, nullable) {
				alone[p.Left][wordRule(g, x)] = true
			}
		}
	}
	for by := range n {
		for from := range n {
			for to := range n {
				alone[from][to] = alone[from][to] || alone[from][by] && alone[by][to]
			}
		}
	}
	l := make([]bool, n)
	for i := range l {
		l[i] = alone[i][i]
	}
	return l
}

// addTo lays numbers into a rising list; whether one was new.
func addTo(l *[]int, more []int) bool {
	size := len(*l)
	*l = append(*l, more...)
	slices.Sort(*l)
	*l = slices.Compact(*l)
	return len(*l) > size
}

// firstOf are the kinds with which a row begins, and whether it makes the empty one, if that is known of the rules.
func firstOf(g api.Plain, row []int, first [][]int, nullable []bool) ([]int, bool) {
	var l []int
	for _, x := range row {
		if wordRule(g, x) < 0 {
			addTo(&l, []int{x})
			return l, false
		}
		addTo(&l, first[wordRule(g, x)])
		if !nullable[wordRule(g, x)] {
			return l, false
		}
	}
	return l, true
}

func wordFirst(g api.Plain) [][]int {
	nullable, first := wordNullable(g), make([][]int, len(g.Rules))
	tillNothingIsNew(g, func(p api.Prod) bool {
		l, _ := firstOf(g, p.Right, first, nullable)
		return addTo(&first[p.Left], l)
	})
	return first
}

func wordFollow(g api.Plain) [][]int {
	nullable, first, reached := wordNullable(g), wordFirst(g), wordReached(g, everyProd)
	follow := make([][]int, len(g.Rules))
	addTo(&follow[g.Start], []int{api.KindEnd})
	tillNothingIsNew(g, func(p api.Prod) bool {
		isNew := false
		for i, x := range p.Right {
			if wordRule(g, x) < 0 || !reached[p.Left] {
				continue
			}
			l, isEmpty := firstOf(g, p.Right[i+1:], first, nullable)
			if isEmpty {
				addTo(&l, follow[p.Left])
			}
			isNew = addTo(&follow[wordRule(g, x)], l) || isNew
		}
		return isNew
	})
	return follow
}

func wordLook(g api.Plain) api.Report {
	return api.Report{Nullable: wordNullable(g), Productive: wordProductive(g), Reached: wordReached(g, everyProd), Cyclic: wordCyclic(g), First: wordFirst(g), Follow: wordFollow(g)}
}

// unknown is the Least of a rule that makes no row of kinds.
const unknown = 1 << 40

// lengthBy is how many kinds a row makes, by its rules' Leasts.
func lengthBy(g api.Plain, row, leasts []int) int {
	n := 0
	for _, x := range row {
		if rule := wordRule(g, x); rule >= 0 {
			n += leasts[rule]
		} else {
			n++
		}
	}
	return min(n, unknown)
}

func wordLeasts(g api.Plain) []int {
	l := slices.Repeat([]int{unknown}, len(g.Rules))
	tillNothingIsNew(g, func(p api.Prod) bool {
		n := lengthBy(g, p.Right, l)
		isNew := n < l[p.Left]
		l[p.Left] = min(n, l[p.Left])
		return isNew
	})
	return l
}

// wordHeights are the rules' heights, and the productions that are taken for them.
func wordHeights(g api.Plain) ([]int, []int) {
	leasts := wordLeasts(g)
	heights, taken := make([]int, len(g.Rules)), make([]int, len(g.Rules))
	for round := 1; round <= len(g.Rules); round++ {
		ahead := slices.Clone(heights)
		for i, p := range slices.Backward(g.Prods) { // so that the first one is what stays
			isHigh := slices.ContainsFunc(p.Right, func(x int) bool { return wordRule(g, x) >= 0 && ahead[wordRule(g, x)] == 0 })
			if ahead[p.Left] == 0 && !isHigh && lengthBy(g, p.Right, leasts) == leasts[p.Left] {
				heights[p.Left], taken[p.Left] = round, i
			}
		}
	}
	return heights, taken
}

func wordRow(g api.Plain, rule int) ([]int, api.Errno) {
	if rule < 0 || rule >= len(g.Rules) {
		return nil, api.ErrArg
	}
	switch least := wordLeasts(g)[rule]; {
	case least == unknown:
		return nil, api.ErrNone
	case least > api.MaxToks:
		return nil, api.ErrLong
	}
	_, taken := wordHeights(g)
	row := []int{len(g.Kinds) + rule}
	for {
		i := slices.IndexFunc(row, func(x int) bool { return wordRule(g, x) >= 0 })
		if i < 0 {
			return row, api.OK
		}
		row = slices.Concat(row[:i], g.Prods[taken[wordRule(g, row[i])]].Right, row[i+1:])
	}
}

// wordTrim is found by names: rules are dropped, and lines in which they stand.
func wordTrim(g api.Plain) (string, api.Errno) {
	productive := wordProductive(g)
	if !productive[g.Start] {
		return "", api.ErrNone
	}
	isKept := wordReached(g, func(p api.Prod) bool { return allMarked(g, p.Right, productive) })
	for rule := range isKept {
		isKept[rule] = isKept[rule] && productive[rule]
	}
	text := told(g.Kinds) + told(g.Precs) + g.Rules[g.Start] + "|" + ruleNames(g, isKept) + "\n"
	for i, p := range g.Prods {
		if isKept[p.Left] && allMarked(g, p.Right, isKept) {
			text += wordLines(g)[i] + told(p.Level) + told(p.Act) + "\n"
		}
	}
	return text, api.OK
}

// trimText is a trimmed grammar in the form of wordTrim.
func trimText(g api.Plain) string {
	text := told(g.Kinds) + told(g.Precs) + g.Rules[g.Start] + "|" + strings.Join(g.Rules, " ") + "\n"
	for i, p := range g.Prods {
		text += wordLines(g)[i] + told(p.Level) + told(p.Act) + "\n"
	}
	return text
}

func wordLines(g api.Plain) []string {
	var l []string
	for _, p := range g.Prods {
		l = append(l, strings.TrimRight(g.Rules[p.Left]+" = "+names(g, p.Right), " "))
	}
	return l
}

// likeWords holds all calls at a grammar that may be against the words.
func likeWords(t *testing.T, g api.Plain) {
	t.Helper()
	if e := gram.Check(g); e != api.OK {
		t.Fatal(e, g)
	}
	text := strings.Join(wordLines(g), "; ")
	if r, e := gram.Look(g); e != api.OK || told(r) != told(wordLook(g)) {
		t.Fatalf("%s: %+v, %v, not %+v", text, r, e, wordLook(g))
	}
	for rule := -1; rule <= len(g.Rules); rule++ {
		likeWordsOf(t, g, rule)
	}
	want, wantE := wordTrim(g)
	made, e := gram.Trim(g)
	if e != wantE || e == api.OK && trimText(made) != want || e != api.OK && told(made) != told(api.Plain{}) {
		t.Fatalf("%s: %s, %v, not %s", text, trimText(made), e, want)
	}
	if l, e := gram.Lines(g); e != api.OK || !slices.Equal(l, wordLines(g)) {
		t.Fatal(l, e, wordLines(g))
	}
}

// likeWordsOf holds Least and Row of a rule against the words.
func likeWordsOf(t *testing.T, g api.Plain, rule int) {
	t.Helper()
	text := strings.Join(wordLines(g), "; ")
	wantRow, wantE := wordRow(g, rule)
	if row, e := gram.Row(g, rule); e != wantE || !slices.Equal(row, wantRow) {
		t.Fatal(text, ":", rule, row, e, "not", wantRow, wantE)
	}
	want, wantIs := 0, false
	if wantE == api.OK || wantE == api.ErrLong {
		want, wantIs = min(wordLeasts(g)[rule], api.MaxToks+1), true
	}
	if wantE != api.ErrArg {
		wantE = api.OK
	}
	if n, is, e := gram.Least(g, rule); n != want || is != wantIs || e != wantE {
		t.Fatal(text, ":", rule, n, is, e, "not", want, wantIs, wantE)
	}
}
