package regex_test

import (
	"slices"
	"testing"

	"quoin/api"
	"quoin/regex"
)

// DOC.md's R4: what is handed in is not changed and not kept, what is answered is new memory

// marked is a copy of a tree with room behind each list in which marks stand.
func marked(r api.Regex) api.Regex {
	made := api.Regex{Kind: r.Kind}
	if len(r.Set) > 0 {
		made.Set = append(slices.Clone(r.Set), span(-7, -7), span(5, 4))[:len(r.Set)]
	}
	if len(r.Kids) > 0 {
		for _, k := range r.Kids {
			made.Kids = append(made.Kids, marked(k))
		}
		made.Kids = append(made.Kids, api.Regex{Kind: -7}, re(99, reNone))[:len(r.Kids)]
	}
	return made
}

// whole is a tree with the room behind its lists.
func whole(r api.Regex) api.Regex {
	made := api.Regex{Kind: r.Kind, Set: slices.Clone(r.Set[:cap(r.Set)])}
	for _, k := range r.Kids[:cap(r.Kids)] {
		made.Kids = append(made.Kids, whole(k))
	}
	return made
}

// spoil overwrites a tree's lists, and the room behind them.
func spoil(r api.Regex) {
	for i := range r.Set[:cap(r.Set)] {
		r.Set[:cap(r.Set)][i] = span(-9, -9)
	}
	for i, k := range r.Kids[:cap(r.Kids)] {
		spoil(k)
		r.Kids[:cap(r.Kids)][i] = api.Regex{Kind: -9}
	}
}

// copied is a tree in memory of its own.
func copied(r api.Regex) api.Regex {
	made := api.Regex{Kind: r.Kind, Set: slices.Clone(r.Set)}
	for _, k := range r.Kids {
		made.Kids = append(made.Kids, copied(k))
	}
	return made
}

// answers are all trees that calls answer of two.
func answers(t *testing.T, a, b api.Regex) []api.Regex {
	var all []api.Regex
	take := func(r api.Regex, e api.Errno) {
		t.Helper()
		if e != api.OK {
			t.Error(e)
		}
		all = append(all, r)
	}
	take(regex.Normal(a))
	take(regex.Normal(cat(a, alt(b, reEmpty), a)))
	if a.Kind == api.ReSet {
		take(regex.Set(a.Set))
	}
	for _, way := range []func(...api.Regex) (api.Regex, api.Errno){regex.Cat, regex.Alt, regex.And} {
		take(way())
		take(way(a))
		take(way(a, b))
		take(way(b, a, b))
		take(way(a, a, a))
		take(way(a, reNone))
		take(way(reAll, a))
	}
	take(regex.Not(a))
	take(regex.Star(a))
	take(regex.Repeat(a, 0, 0))
	take(regex.Repeat(a, 1, 1))
	take(regex.Repeat(a, 2, 4))
	take(regex.Repeat(a, 1, -1))
	for c := 'a'; c <= 'c'; c++ {
		take(regex.Derive(a, c))
	}
	return all
}

func TestTreesAreNew(t *testing.T) {
	trees := rightTrees(25)
	for _, a := range trees {
		for _, b := range append(trees[:4:4], trees[25:30]...) {
			x, y := marked(a), marked(b)
			keptX, keptY := whole(x), whole(y)
			first := answers(t, x, y)
			var kept []api.Regex
			for _, r := range first {
				kept = append(kept, copied(r))
			}
			for i, r := range first {
				spoil(r)
				for j := i + 1; j < len(first); j++ {
					if !same(first[j], kept[j]) {
						t.Fatal("two answers share memory", i, j)
					}
				}
			}
			if !same(whole(x), keptX) || !same(whole(y), keptY) {
				t.Fatal("an argument is changed, or shared", brief(a), brief(b))
			}
			for i, r := range answers(t, x, y) {
				if !same(r, kept[i]) {
					t.Fatal("an answer hangs on another", i)
				}
			}
		}
	}
}

// lists counts each first element of a tree's lists by its address.
func lists(r api.Regex, sets map[*api.Range]int, kids map[*api.Regex]int) {
	for i := range r.Set[:cap(r.Set)] {
		sets[&r.Set[:cap(r.Set)][i]]++
	}
	for i, k := range r.Kids[:cap(r.Kids)] {
		kids[&r.Kids[:cap(r.Kids)][i]]++
		lists(k, sets, kids)
	}
}

func TestListsOfOneAnswerShareNothing(t *testing.T) {
	check := func(r api.Regex) {
		t.Helper()
		sets, kids := map[*api.Range]int{}, map[*api.Regex]int{}
		lists(r, sets, kids)
		for _, n := range sets {
			if n > 1 {
				t.Fatal("two sets share memory", brief(r))
			}
		}
		for _, n := range kids {
			if n > 1 {
				t.Fatal("two lists of kids share memory", brief(r))
			}
		}
	}
	trees := rightTrees(60)
	for _, a := range trees {
		for _, r := range answers(t, a, trees[30]) {
			check(r)
		}
	}
	check(parsed(t, `([a-c] "xx" [a-c])+ | ([a-c] "xx" [a-c]){3} & !([a-c] "xx" [a-c])`))
	x, e := regex.Repeat(cat(star(one('a')), one('b')), 2, 5)
	if e != api.OK {
		t.Error(e)
	}
	check(x)
}

func TestOthersLeaveTheirArguments(t *testing.T) {
	for _, r := range append(rightTrees(40), alt(one('b'), one('a')), cat(star(reNone), reEmpty), not(not(one('a'))), alt(cat(one('b'), one('a')), cat(one('a'), one('b')))) {
		x := marked(r)
		kept := whole(x)
		regex.Right(x)
		regex.Normal(x)
		regex.Size(x)
		regex.Compare(x, one('a'))
		regex.Compare(one('a'), x)
		regex.Nullable(x)
		regex.Match(x, 'a', 'b')
		regex.Cuts(x)
		regex.Text(x)
		askAll(x)
		if !same(whole(x), kept) {
			t.Error("an argument is changed", brief(r))
		}
	}
	l := []api.Regex{star(one('a')), one('b'), alt(reEmpty, one('c')), one('a'), reEmpty, {Kind: -7}}[:5]
	kept := whole(re(0, l...))
	kept.Kids = append(kept.Kids[:5], api.Regex{Kind: -7})
	regex.Alt(l...)
	regex.And(l...)
	regex.Cat(l...)
	if !slices.EqualFunc(l[:6], kept.Kids, same) {
		t.Error("the list of kids is changed")
	}
	row := []rune{'b', 'a', -5}[:2]
	regex.Word(row...)
	regex.Match(one('a'), row...)
	if !slices.Equal(row[:3], []rune{'b', 'a', -5}) {
		t.Error("the row is changed")
	}
}

func TestCutsAreNew(t *testing.T) {
	r := cat(one('a'), one('x'))
	first, _ := regex.Cuts(r)
	clear(first[:cap(first)])
	if second, e := regex.Cuts(r); e != api.OK || !slices.Equal(second, []rune{0, 'a', 'b', 'x', 'y'}) {
		t.Error(second, e)
	}
}

func TestParsedTreesAreNew(t *testing.T) {
	for _, s := range []string{`[a-c x] "ab"*`, `.`, `""`, `![]`, `. | "a"`} {
		first, f := regex.Parse(s)
		kept := copied(first)
		spoil(first)
		if second, g := regex.Parse(s); f != g || !same(second, kept) {
			t.Error(s, g)
		}
		third, _, _ := regex.From(s, 0)
		spoil(third)
		if again, _, g := regex.From(s, 0); f != g || !same(again, kept) {
			t.Error(s, g)
		}
	}
	row := []rune{'a', 'b'}
	w, _ := regex.Word(row...)
	row[0] = 'z'
	if !same(w, cat(one('a'), one('b'))) {
		t.Error(brief(w))
	}
}
