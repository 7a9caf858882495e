package regex_test

import (
	"cmp"
	"math/rand"
	"slices"
	"strings"
	"testing"

	"quoin/api"
	"quoin/regex"
	"quoin/runes"
)

// The chapter's words by the letter: trees are made over from end to end, rows are cut in all ways.

var (
	reNone  = api.Regex{Kind: api.ReNone}
	reEmpty = api.Regex{Kind: api.ReEmpty}
	reAll   = re(api.ReNot, reNone) // everything
)

// re is a tree of a kind and its kids, whether it is right or not.
func re(kind int, kids ...api.Regex) api.Regex {
	return api.Regex{Kind: kind, Kids: slices.Clone(kids)}
}

func cat(kids ...api.Regex) api.Regex { return re(api.ReCat, kids...) }
func alt(kids ...api.Regex) api.Regex { return re(api.ReAlt, kids...) }
func and(kids ...api.Regex) api.Regex { return re(api.ReAnd, kids...) }
func not(kid api.Regex) api.Regex     { return re(api.ReNot, kid) }
func star(kid api.Regex) api.Regex    { return re(api.ReStar, kid) }

// span is a range.
func span(lo, hi rune) api.Range { return api.Range{Lo: lo, Hi: hi} }

// set is a ReSet of ranges.
func set(l ...api.Range) api.Regex { return api.Regex{Kind: api.ReSet, Set: slices.Clone(l)} }

// one is the ReSet of one rune.
func one(c rune) api.Regex { return set(span(c, c)) }

// dots are n ranges of one rune, each two above the one ahead.
func dots(from rune, n int) []api.Range {
	l := make([]api.Range, n)
	for i := range l {
		l[i] = span(from+2*rune(i), from+2*rune(i))
	}
	return l
}

func same(a, b api.Regex) bool {
	return a.Kind == b.Kind && slices.Equal(a.Set, b.Set) && slices.EqualFunc(a.Kids, b.Kids, same)
}

// partsOf is how many parts a tree has.
func partsOf(r api.Regex) int {
	n := 1 + len(r.Set)
	for _, k := range r.Kids {
		n += partsOf(k)
	}
	return n
}

// levelsOf is how many expressions lie within one another.
func levelsOf(r api.Regex) int {
	n := 0
	for _, k := range r.Kids {
		n = max(n, levelsOf(k))
	}
	return n + 1
}

// orderOf is the order of trees.
func orderOf(a, b api.Regex) int {
	if a.Kind != b.Kind {
		return cmp.Compare(a.Kind, b.Kind)
	}
	byRange := func(x, y api.Range) int {
		return cmp.Or(cmp.Compare(x.Lo, y.Lo), cmp.Compare(x.Hi, y.Hi))
	}
	return cmp.Or(slices.CompareFunc(a.Set, b.Set, byRange), slices.CompareFunc(a.Kids, b.Kids, orderOf))
}

func kindIn(r api.Regex, kinds ...int) bool { return slices.Contains(kinds, r.Kind) }

// isRight tells whether a tree is right.
func isRight(r api.Regex) bool {
	return partsOf(r) <= 4096 && levelsOf(r) <= 64 && rightForm(r)
}

func rightForm(r api.Regex) bool {
	for _, k := range r.Kids {
		if !rightForm(k) {
			return false
		}
	}
	if r.Kind != api.ReSet && len(r.Set) > 0 {
		return false
	}
	switch r.Kind {
	case api.ReNone, api.ReEmpty:
		return len(r.Kids) == 0
	case api.ReSet:
		return len(r.Kids) == 0 && len(r.Set) > 0 && runes.Check(r.Set) == api.OK
	case api.ReCat:
		return len(r.Kids) > 1 && !slices.ContainsFunc(r.Kids, func(k api.Regex) bool {
			return kindIn(k, api.ReCat, api.ReEmpty, api.ReNone)
		})
	case api.ReAlt, api.ReAnd:
		sets := 0
		for i, k := range r.Kids {
			if k.Kind == api.ReSet {
				sets++
			}
			if i > 0 && orderOf(r.Kids[i-1], k) >= 0 || k.Kind == r.Kind || k.Kind == api.ReNone || same(k, reAll) {
				return false
			}
		}
		return len(r.Kids) > 1 && sets < 2
	case api.ReNot:
		return len(r.Kids) == 1 && r.Kids[0].Kind != api.ReNot
	case api.ReStar:
		return len(r.Kids) == 1 && !kindIn(r.Kids[0], api.ReStar, api.ReEmpty, api.ReNone)
	}
	return false
}

// spliced is kids with the kids of those of a kind in their place.
func spliced(kind int, kids []api.Regex) []api.Regex {
	var l []api.Regex
	for _, k := range kids {
		if k.Kind == kind {
			l = append(l, k.Kids...)
		} else {
			l = append(l, k)
		}
	}
	return l
}

func has(l []api.Regex, r api.Regex) bool {
	return slices.ContainsFunc(l, func(k api.Regex) bool { return same(k, r) })
}

func without(l []api.Regex, r api.Regex) []api.Regex {
	return slices.DeleteFunc(slices.Clone(l), func(k api.Regex) bool { return same(k, r) })
}

// makeOf is what is made of a tree whose kids are right.
func makeOf(r api.Regex) api.Regex {
	switch r.Kind {
	case api.ReSet:
		if len(r.Set) == 0 {
			return reNone
		}
	case api.ReCat:
		if has(r.Kids, reNone) {
			return reNone
		}
		return only(api.ReCat, reEmpty, spliced(api.ReCat, without(r.Kids, reEmpty)))
	case api.ReAlt:
		return makeChoice(r, reAll, reNone, func(a, b bool) bool { return a || b })
	case api.ReAnd:
		return makeChoice(r, reNone, reAll, func(a, b bool) bool { return a && b })
	case api.ReNot:
		if r.Kids[0].Kind == api.ReNot {
			return r.Kids[0].Kids[0]
		}
	case api.ReStar:
		if r.Kids[0].Kind == api.ReStar {
			return r.Kids[0]
		}
		if kindIn(r.Kids[0], api.ReEmpty, api.ReNone) {
			return reEmpty
		}
	}
	return r
}

// only is a tree of kids; of none another; of one that one.
func only(kind int, ofNone api.Regex, kids []api.Regex) api.Regex {
	switch len(kids) {
	case 0:
		return ofNone
	case 1:
		return kids[0]
	}
	return re(kind, kids...)
}

// makeChoice is a ReAlt or a ReAnd; both tells whether a rune is in the sets together that is in them one by one.
func makeChoice(r api.Regex, swallows, idle api.Regex, both func(a, b bool) bool) api.Regex {
	kids := spliced(r.Kind, r.Kids)
	if has(kids, swallows) {
		return swallows
	}
	kids = without(kids, idle)
	var others []api.Regex
	var in []bool
	for _, k := range kids {
		if k.Kind != api.ReSet {
			others = append(others, k)
			continue
		}
		here := membersOf(k.Set)
		if in == nil {
			in = here
			continue
		}
		for c := range in {
			in[c] = both(in[c], here[c])
		}
	}
	if in != nil {
		s := rangesOf(in)
		if len(s) == 0 {
			return reNone
		}
		others = append(others, set(s...))
	}
	slices.SortFunc(others, orderOf)
	return only(r.Kind, idle, slices.CompactFunc(others, same))
}

// fewRunes is up to which rune makeChoice looks; behind it no range of a test ends, but with all runes.
const fewRunes = 9000

func membersOf(s []api.Range) []bool {
	in := make([]bool, fewRunes+1)
	for _, x := range s {
		for c := x.Lo; c <= min(x.Hi, fewRunes); c++ {
			in[c] = true
		}
	}
	return in
}

func rangesOf(in []bool) []api.Range {
	var l []api.Range
	for c := range in {
		switch {
		case !in[c]:
		case c > 0 && in[c-1]:
			l[len(l)-1].Hi = rune(c)
		default:
			l = append(l, span(rune(c), rune(c)))
		}
	}
	if in[fewRunes] {
		l[len(l)-1].Hi = api.MaxRune
	}
	return l
}

// normalOf is what is made of a tree, beginning with the innermost.
func normalOf(r api.Regex) api.Regex {
	made := api.Regex{Kind: r.Kind, Set: r.Set}
	for _, k := range r.Kids {
		made.Kids = append(made.Kids, normalOf(k))
	}
	return makeOf(made)
}

// takes tells whether a tree takes a row.
func takes(r api.Regex, row []rune) bool {
	switch r.Kind {
	case api.ReEmpty:
		return len(row) == 0
	case api.ReSet:
		return len(row) == 1 && runes.Has(r.Set, row[0])
	case api.ReCat:
		if len(r.Kids) == 0 {
			return len(row) == 0
		}
		for i := range len(row) + 1 {
			if takes(r.Kids[0], row[:i]) && takes(cat(r.Kids[1:]...), row[i:]) {
				return true
			}
		}
	case api.ReAlt:
		return slices.ContainsFunc(r.Kids, func(k api.Regex) bool { return takes(k, row) })
	case api.ReAnd:
		return !slices.ContainsFunc(r.Kids, func(k api.Regex) bool { return !takes(k, row) })
	case api.ReNot:
		return !takes(r.Kids[0], row)
	case api.ReStar:
		if len(row) == 0 {
			return true
		}
		for i := range len(row) { // a piece that is empty leads nowhere new
			if takes(r.Kids[0], row[:i+1]) && takes(r, row[i+1:]) {
				return true
			}
		}
	}
	return false
}

// deriveOf is the derivative of a right tree.
func deriveOf(r api.Regex, c rune) api.Regex {
	var kids []api.Regex
	for _, k := range r.Kids {
		kids = append(kids, deriveOf(k, c))
	}
	switch r.Kind {
	case api.ReSet:
		if runes.Has(r.Set, c) {
			return reEmpty
		}
	case api.ReCat:
		rest := makeOf(cat(r.Kids[1:]...))
		d := makeOf(cat(kids[0], rest))
		if takes(r.Kids[0], nil) {
			return makeOf(alt(d, deriveOf(rest, c)))
		}
		return d
	case api.ReAlt, api.ReAnd, api.ReNot:
		return makeOf(re(r.Kind, kids...))
	case api.ReStar:
		return makeOf(cat(kids[0], r))
	}
	return reNone
}

// textOf is the text of a right tree.
func textOf(r api.Regex) string {
	kids := func(between string, bracketed ...int) string {
		var l []string
		for _, k := range r.Kids {
			s := textOf(k)
			if kindIn(k, bracketed...) {
				s = "(" + s + ")"
			}
			l = append(l, s)
		}
		return strings.Join(l, between)
	}
	switch r.Kind {
	case api.ReEmpty:
		return `""`
	case api.ReSet:
		s, _ := runes.Text(r.Set)
		return s
	case api.ReCat:
		return kids(" ", api.ReAlt, api.ReAnd)
	case api.ReAlt:
		return kids(" | ", api.ReAlt)
	case api.ReAnd:
		return kids(" & ", api.ReAlt)
	case api.ReNot:
		return "!" + kids("", api.ReAlt, api.ReAnd, api.ReCat)
	case api.ReStar:
		return kids("", api.ReAlt, api.ReAnd, api.ReCat, api.ReNot) + "*"
	}
	return "[]"
}

// tooMuch is the error of what has too many parts, or lies too deep.
func tooMuch(r api.Regex) api.Errno {
	switch {
	case partsOf(r) > 4096:
		return api.ErrSize
	case levelsOf(r) > 64:
		return api.ErrNest
	}
	return api.OK
}

// repeatOf is a right tree so often; or the error of what is too much first.
func repeatOf(r api.Regex, lo, hi int) (api.Regex, api.Errno) {
	if lo < 0 || hi >= 0 && hi < lo {
		return api.Regex{}, api.ErrArg
	}
	if lo > 255 || hi > 255 {
		return api.Regex{}, api.ErrRepeat
	}
	behind := reEmpty
	if hi < 0 {
		behind = makeOf(star(r))
		if e := tooMuch(behind); e != api.OK {
			return api.Regex{}, e
		}
	}
	for range max(hi, lo) - lo {
		for _, way := range []func() api.Regex{
			func() api.Regex { return makeOf(cat(r, behind)) },
			func() api.Regex { return makeOf(alt(reEmpty, behind)) },
		} {
			behind = way()
			if e := tooMuch(behind); e != api.OK {
				return api.Regex{}, e
			}
		}
	}
	all := makeOf(cat(append(slices.Repeat([]api.Regex{r}, lo), behind)...))
	if e := tooMuch(all); e != api.OK {
		return api.Regex{}, e
	}
	return all, api.OK
}

// someSets are sets that touch, meet, lie in one another, or do not.
func someSets() []api.Regex {
	return []api.Regex{
		one('a'), one('b'), one('c'),
		set(span('a', 'b')), set(span('b', 'c')), set(span('a', 'a'), span('c', 'c')),
		set(span(0, 'a'-1), span('b', api.MaxRune)), set(span(0, api.MaxRune)),
		set(span('d', 'z')), set(span(0xD800, 0xDFFF)),
	}
}

// chosen is a tree that may be, of at most so many levels; it need not be right.
func chosen(chance *rand.Rand, levels int) api.Regex {
	if levels < 2 || chance.Intn(5) == 0 {
		leaves := append(someSets()[:7], reNone, reEmpty, api.Regex{Kind: api.ReSet})
		return leaves[chance.Intn(len(leaves))]
	}
	kind := api.ReCat + chance.Intn(5)
	n := 1
	if kind < api.ReNot {
		n += chance.Intn(3)
	}
	var kids []api.Regex
	for range n {
		kids = append(kids, chosen(chance, levels-1))
	}
	return re(kind, kids...)
}

// someTrees are trees that may be: edges, and n of chance.
func someTrees(n int) []api.Regex {
	a, b := one('a'), one('b')
	l := append(someSets()[:7], reNone, reEmpty, reAll, star(a), star(reAll), not(a), not(reEmpty), cat(a, b), cat(a, a, b), alt(a, cat(a, b)), alt(reEmpty, b),
		and(a, not(cat(a, b))), and(star(a), star(cat(a, b))), star(cat(a, b)), star(not(a)), not(star(a)), cat(reAll, a, reAll), cat(not(a), star(b)),
		star(alt(reEmpty, a)), star(and(a, reAll)), not(and(not(a), not(b))), cat(alt(reEmpty, a), alt(reEmpty, b), alt(reEmpty, a)), cat(star(a), star(b), one('c')))
	chance := rand.New(rand.NewSource(int64(n)))
	for range n {
		l = append(l, chosen(chance, 2+chance.Intn(4)))
	}
	return l
}

// rightTrees are trees that are right.
func rightTrees(n int) []api.Regex {
	var l []api.Regex
	for _, r := range someTrees(n) {
		l = append(l, normalOf(r))
	}
	return l
}

// someRows are all rows of a, b and c with at most n runes.
func someRows(n int) [][]rune {
	l := [][]rune{{}}
	for from := 0; n > 0; n-- {
		end := len(l)
		for _, row := range l[from:end] {
			for c := 'a'; c <= 'c'; c++ {
				l = append(l, append(slices.Clone(row), c))
			}
		}
		from = end
	}
	return l
}

// want tells whether what was answered is what was meant.
func want(t *testing.T, what string, r api.Regex, e api.Errno, meant api.Regex) {
	t.Helper()
	if e != api.OK || !same(r, meant) {
		t.Errorf("%s: %s %v, want %s", what, brief(r), e, brief(meant))
	}
}

// refused tells whether an error was answered, and nothing else.
func refused(t *testing.T, what string, r api.Regex, e, meant api.Errno) {
	t.Helper()
	if e != meant || !same(r, api.Regex{}) {
		t.Errorf("%s: %s %v, want %v", what, brief(r), e, meant)
	}
}

// brief is a tree for a reader.
func brief(r api.Regex) string {
	s := textOf(r)
	return s[:min(len(s), 80)]
}

// parsed is the expression of a text that is one.
func parsed(t *testing.T, s string) api.Regex {
	t.Helper()
	r, f := regex.Parse(s)
	if f != (api.Fault{}) {
		t.Fatal(s[:min(len(s), 200)], f)
	}
	return r
}
