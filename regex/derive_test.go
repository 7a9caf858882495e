package regex_test

import (
	"math"
	"slices"
	"testing"

	"quoin/api"
	"quoin/regex"
	"quoin/runes"
)

// R4, R8: derivatives, and where they part

func TestDerive(t *testing.T) {
	for _, r := range rightTrees(1500) {
		for _, c := range []rune{'a', 'b', 'c', 'x', 0, api.MaxRune} {
			d, e := regex.Derive(r, c)
			want(t, "Derive", d, e, deriveOf(r, c))
			if !regex.Right(d) {
				t.Error(brief(d))
			}
		}
	}
}

func TestDeriveByHand(t *testing.T) {
	a, b, c := one('a'), one('b'), one('c')
	maybe := alt(reEmpty, a)
	for _, x := range []struct{ r, meant api.Regex }{
		{reNone, reNone}, {reEmpty, reNone}, {a, reEmpty}, {b, reNone}, {reAll, reAll}, {not(reEmpty), reAll},
		{cat(a, b), b}, {cat(a, b, c), cat(b, c)}, {cat(b, a), reNone}, {cat(maybe, a), maybe}, {cat(maybe, b), b},
		{cat(star(a), a, b), alt(b, cat(star(a), a, b))}, {alt(a, cat(a, b)), alt(reEmpty, b)}, {alt(cat(a, b), cat(a, c)), set(span('b', 'c'))},
		{and(cat(a, b), cat(a, c)), reNone}, {and(cat(a, star(b)), cat(star(a), b)), and(cat(star(a), b), star(b))},
		{not(a), not(reEmpty)}, {not(b), reAll}, {not(cat(a, b)), not(b)}, {star(a), star(a)}, {star(b), reNone}, {star(cat(a, b)), cat(b, star(cat(a, b)))},
		{star(star(a).Kids[0]), star(a)}, {cat(not(b), c), cat(reAll, c)}, {cat(not(reEmpty), c), cat(reAll, c)},
	} {
		if normalOf(x.meant).Kind != x.meant.Kind {
			t.Fatal(brief(x.meant))
		}
		d, e := regex.Derive(x.r, 'a')
		want(t, "Derive of "+brief(x.r), d, e, normalOf(x.meant))
	}
}

func TestDeriveTakesWhatIsLeft(t *testing.T) {
	rows := someRows(4)
	for _, r := range rightTrees(150) {
		for c := 'a'; c <= 'c'; c++ {
			d, e := regex.Derive(r, c)
			for _, row := range rows {
				if e != api.OK || regex.Match(d, row...) != regex.Match(r, append([]rune{c}, row...)...) {
					t.Error(brief(r), string(c), string(row), e)
				}
			}
		}
		for _, row := range rows {
			d, e := r, api.OK
			for _, c := range row {
				if d, e = regex.Derive(d, c); e != api.OK {
					t.Fatal(brief(r), e)
				}
			}
			if regex.Nullable(d) != regex.Match(r, row...) || regex.Nullable(d) != takes(r, row) {
				t.Error(brief(r), string(row))
			}
		}
	}
}

func TestDeriveByOtherNumbers(t *testing.T) {
	for _, r := range rightTrees(20) {
		for _, c := range []rune{-1, api.MaxRune + 1, math.MaxInt32, math.MinInt32} {
			d, e := regex.Derive(r, c)
			refused(t, "Derive", d, e, api.ErrArg)
		}
		for _, c := range []rune{0xD7FF, 0xD800, 0xDFFF, 0xE000} { // layer 2's sets have them all
			d, e := regex.Derive(r, c)
			want(t, "Derive", d, e, deriveOf(r, c))
		}
	}
}

// Limits: of what comes

func TestDeriveOfMuch(t *testing.T) {
	a, b := one('a'), one('b')
	maybe := alt(reEmpty, a)
	many := cat(slices.Repeat([]api.Regex{maybe}, 40)...)
	d, e := regex.Derive(many, 'a')
	want(t, "Derive", d, e, deriveOf(many, 'a'))
	if partsOf(d) > 4096 {
		t.Fatal(partsOf(d))
	}
	many = cat(slices.Repeat([]api.Regex{maybe}, 50)...)
	if meant := deriveOf(many, 'a'); partsOf(meant) <= 4096 {
		t.Fatal(partsOf(meant))
	}
	d, e = regex.Derive(many, 'a')
	refused(t, "Derive", d, e, api.ErrSize)
	d, e = regex.Derive(and(b, many), 'a') // what is too much falls away
	want(t, "Derive", d, e, reNone)
	d, e = regex.Derive(alt(many, not(b)), 'a')
	want(t, "Derive", d, e, reAll)
	d, e = regex.Derive(normalOf(cat(and(b, many), many)), 'a')
	want(t, "Derive", d, e, reNone)
	d, e = regex.Derive(many, 'b')
	want(t, "Derive", d, e, reNone)
	d, e = regex.Derive(cat(slices.Repeat([]api.Regex{maybe}, 1000)...), 'a')
	refused(t, "Derive", d, e, api.ErrSize)
}

// checkDerive holds a derivative by a, or why there is none, against the chapter's words.
func checkDerive(t *testing.T, r api.Regex) {
	t.Helper()
	meant := deriveOf(r, 'a')
	d, e := regex.Derive(r, 'a')
	if why := tooMuch(meant); why != api.OK {
		refused(t, "Derive", d, e, why)
	} else {
		want(t, "Derive", d, e, meant)
	}
}

func TestDeriveAtTheLimits(t *testing.T) {
	a := one('a')
	for parts := 2030; parts < 2070; parts++ { // the row again, and behind it the ReStar of it
		checkDerive(t, star(wide(parts)))
	}
	for levels := 50; levels <= 64; levels++ {
		for _, r := range []api.Regex{tall(levels), star(cat(a, tall(levels-2))), cat(tall(levels-1), a)} {
			checkDerive(t, r)
		}
	}
	d, e := regex.Derive(star(cat(a, tall(62))), 'a') // a ReCat with it within
	refused(t, "Derive", d, e, api.ErrNest)
	d, e = regex.Derive(star(cat(a, tall(61))), 'a')
	if e != api.OK || levelsOf(d) != 64 {
		t.Error(e, levelsOf(d))
	}
	thick := star(cat(append([]api.Regex{a}, fat(2100).Kids[:1000]...)...))
	thick.Kids[0].Kids[500] = tall(62)
	if !isRight(thick) {
		t.Fatal(partsOf(thick), levelsOf(thick))
	}
	d, e = regex.Derive(thick, 'a')
	refused(t, "Derive", d, e, api.ErrSize)
}

func TestDeriveOfManyRanges(t *testing.T) {
	low, high := set(dots(0, 1500)...), set(dots(4001, 1500)...)
	a := one('a')
	d, e := regex.Derive(alt(cat(a, low), cat(a, high)), 'a')
	refused(t, "Derive", d, e, api.ErrRanges)
	d, e = regex.Derive(alt(cat(a, low), cat(one('b'), high)), 'a')
	want(t, "Derive", d, e, low)
}

func TestCuts(t *testing.T) {
	var setsOf func(r api.Regex) [][]api.Range
	setsOf = func(r api.Regex) [][]api.Range {
		var l [][]api.Range
		if r.Kind == api.ReSet {
			l = append(l, r.Set)
		}
		for _, k := range r.Kids {
			l = append(l, setsOf(k)...)
		}
		return l
	}
	for _, r := range append(rightTrees(400), someSets()...) {
		meant, _ := runes.Cuts(setsOf(r)...)
		cuts, e := regex.Cuts(r)
		if e != api.OK || !slices.Equal(cuts, meant) {
			t.Error(brief(r), cuts, e)
		}
		for i, lo := range cuts {
			hi := rune(api.MaxRune)
			if i+1 < len(cuts) {
				hi = cuts[i+1] - 1
			}
			first, _ := regex.Derive(r, lo)
			for _, c := range []rune{hi, lo + (hi-lo)/2, min(lo+1, hi), max(hi-1, lo)} {
				if d, e := regex.Derive(r, c); e != api.OK || !same(d, first) {
					t.Error(brief(r), lo, c)
				}
			}
		}
	}
	for _, r := range []api.Regex{reNone, reEmpty, reAll, set(span(0, api.MaxRune))} {
		if cuts, e := regex.Cuts(r); e != api.OK || !slices.Equal(cuts, []rune{0}) {
			t.Error(brief(r), cuts, e)
		}
	}
	r := alt(set(span('a', 'z')), cat(star(one('e')), not(one('_'))))
	if cuts, e := regex.Cuts(r); e != api.OK || !slices.Equal(cuts, []rune{0, '_', '`', 'a', 'e', 'f', 'z' + 1}) {
		t.Error(cuts, e)
	}
}

func TestManyCuts(t *testing.T) {
	r := cat(set(dots(1, 1023)...), one('x'), set(span(0x10FFFF, 0x10FFFF))) // x is a cut of the dots, too
	if cuts, e := regex.Cuts(r); e != api.OK || len(cuts) != 2048 {
		t.Error(len(cuts), e)
	}
	for _, r := range []api.Regex{cat(set(dots(1, 1023)...), set(span(5000, 5001))), set(dots(1, 2048)...), set(dots(1, 1024)...), star(alt(set(dots(1, 1023)...), cat(one('x'), set(span(5000, 5000)))))} {
		if cuts, e := regex.Cuts(r); e != api.ErrRanges || len(cuts) != 0 {
			t.Error(len(cuts), e)
		}
	}
}
