package regex_test

import (
	"math"
	"slices"
	"testing"

	"quoin/api"
	"quoin/regex"
)

// R1: which expressions are right, which may be

func TestRight(t *testing.T) {
	right := 0
	for _, r := range someTrees(4000) {
		if regex.Right(r) != isRight(r) {
			t.Error(r, regex.Right(r))
		}
		if isRight(r) {
			right++
		}
		made := normalOf(r)
		if !isRight(made) || !regex.Right(made) {
			t.Error(made)
		}
	}
	if right < 400 || right > 3600 {
		t.Error("too few of one sort", right)
	}
}

func TestRightFormsByHand(t *testing.T) {
	a, b, c := one('a'), one('b'), one('c')
	for _, r := range []api.Regex{
		reNone, reEmpty, a, set(span(0, api.MaxRune)), set(span('a', 'b'), span('d', 'd')), reAll,
		cat(a, a), cat(a, reAll, star(a)), alt(reEmpty, a), alt(reEmpty, a, cat(a, b)), alt(cat(a, b), and(a, not(b)), not(a), star(a)),
		and(reEmpty, a), and(a, not(a)), not(reEmpty), star(reAll), star(not(a)), not(star(a)), star(cat(a, b)),
		alt(cat(a, b), cat(a, b, a)), alt(cat(a, b), cat(b, a)), {Kind: api.ReEmpty, Set: []api.Range{}, Kids: []api.Regex{}},
	} {
		if !regex.Right(r) || !isRight(r) {
			t.Error(r)
		}
	}
	for _, r := range []api.Regex{
		set(), cat(), cat(a), cat(cat(a, b), c), cat(a, cat(b, c)), cat(a, reEmpty), cat(reNone, a),
		alt(), alt(a), alt(a, a), alt(a, reEmpty), alt(cat(a, b), a), alt(a, b), alt(a, alt(b, c)), alt(a, reAll), alt(reNone, a),
		and(), and(a), and(a, a), and(a, reEmpty), and(a, b), and(a, reAll), and(reNone, a), and(star(a), and(a, b)),
		re(api.ReNot), not(not(a)), not(reAll), re(api.ReNot, a, b), re(api.ReStar), star(star(a)), star(reEmpty), star(reNone), re(api.ReStar, a, b),
		alt(cat(a, b, a), cat(a, b)), alt(cat(b, a), cat(a, b)), alt(cat(a, b), cat(a, b)),
		not(cat(a)), star(alt(b, a)), cat(a, not(not(a))), alt(reEmpty, star(star(a))), and(reEmpty, not(not(a))),
	} {
		if regex.Right(r) || isRight(r) {
			t.Error(r)
		}
	}
}

// twoSets are trees in which two ReSets stand side by side, though layer 2 has no set for both together.
func twoSets() []api.Regex {
	wide := func(from rune, n int) api.Regex { // ranges of five runes, with one between
		r := set()
		for i := range rune(n) {
			r.Set = append(r.Set, span(from+6*i, from+6*i+4))
		}
		return r
	}
	odd := func(from rune, n int) api.Regex { // every fourth rune
		r := set()
		for i := range rune(n) {
			r.Set = append(r.Set, span(from+4*i, from+4*i))
		}
		return r
	}
	l := []api.Regex{
		alt(odd(0, 1025), odd(2, 1025)), alt(reEmpty, odd(0, 1025), odd(2, 1025)), alt(odd(0, 1025), odd(2, 1025), star(one('a'))),
		alt(odd(0, 1024), odd(2, 1025)), alt(odd(0, 2040), one(2)), alt(odd(0, 700), odd(2, 700), odd(8002, 700)), // as one 2049, 2041 and 2100
		and(wide(0, 1025), wide(3, 1025)), and(reEmpty, wide(0, 1025), wide(3, 1025)), and(wide(0, 1025), wide(3, 1025), not(one('a'))),
	}
	for _, r := range slices.Clone(l) {
		l = append(l, not(r), star(r), cat(one('a'), r), cat(r, one('a')), alt(reEmpty, not(r)), and(reEmpty, star(r)), star(not(cat(r, one('a')))))
	}
	return l
}

func TestTwoSetsAreNotRight(t *testing.T) {
	for i, r := range twoSets() {
		if regex.Right(r) || isRight(r) || partsOf(r) > 4096 {
			t.Error(i, regex.Right(r), isRight(r), partsOf(r))
		}
	}
	for i, r := range []api.Regex{twoSets()[0], twoSets()[6]} { // it may be, but layer 2 refuses what would come
		n, e := regex.Normal(r)
		refused(t, "Normal", n, e, api.ErrRanges)
		together := []func(...api.Regex) (api.Regex, api.Errno){regex.Alt, regex.And}[i]
		n, e = together(r.Kids...)
		refused(t, "made", n, e, api.ErrRanges)
	}
}

// wrongForms are trees that may not be.
func wrongForms() []api.Regex {
	a := one('a')
	with := func(r api.Regex, s ...api.Range) api.Regex {
		r.Set = s
		return r
	}
	l := []api.Regex{
		{Kind: -1}, {Kind: 8}, {Kind: 9}, {Kind: math.MaxInt}, {Kind: math.MinInt}, {Kind: 256}, {Kind: 258, Set: a.Set}, re(-1, a), re(8, a),
		re(api.ReNone, a), re(api.ReEmpty, a), re(api.ReEmpty, reEmpty), {Kind: api.ReSet, Set: a.Set, Kids: []api.Regex{a}}, re(api.ReSet, a),
		with(reNone, a.Set...), with(reEmpty, a.Set...), with(cat(a, a), a.Set...), with(alt(reEmpty, a), a.Set...), with(and(reEmpty, a), a.Set...), with(not(a), a.Set...), with(star(a), a.Set...),
		cat(), alt(), and(), re(api.ReNot), re(api.ReStar), re(api.ReNot, a, a), re(api.ReStar, a, a), re(api.ReStar, a, a, a),
		set(span('b', 'a')), set(span(-1, 5)), set(span(5, api.MaxRune+1)), set(span('b', 'b'), span('a', 'a')), set(span('a', 'a'), span('b', 'b')), set(span('a', 'a'), span('a', 'a')), set(dots(0, 2049)...),
	}
	for _, r := range slices.Clone(l) {
		l = append(l, cat(a, r), not(r), star(alt(reEmpty, a, r)), and(r, r), alt(reAll, r), cat(reNone, r))
	}
	return append(l, beyond()...)
}

// beyond are trees that have too many parts, or lie too deep, whatever they are else.
func beyond() []api.Regex {
	l := []api.Regex{wide(4097), tall(65), cat(wide(4096)), not(tall(64)), tall(66), wide(4200), cat(slices.Repeat([]api.Regex{reEmpty}, 4096)...)}
	for _, leaf := range []api.Regex{reNone, one('a')} { // they share memory, and have some 2^60 parts
		r := leaf
		for range 60 {
			r = alt(r, cat(r, r))
		}
		l = append(l, r)
		for range 1000 {
			r = not(r)
		}
		l = append(l, r)
	}
	return l
}

// wide is a right tree of so many parts, two levels deep.
func wide(parts int) api.Regex {
	kids := []api.Regex{set(dots('a', 2+parts%2)...)} // an even number of parts is left
	for range (parts - 4) / 2 {
		kids = append(kids, one('b'))
	}
	return cat(kids...)
}

// tall is a right tree of so many levels.
func tall(levels int) api.Regex {
	r := one('a')
	for i := range levels - 1 {
		if i%2 == 0 {
			r = star(r)
		} else {
			r = not(r)
		}
	}
	return r
}

func TestLimitsOfRight(t *testing.T) {
	for parts := 4090; parts < 4100; parts++ {
		if r := wide(parts); partsOf(r) != parts || regex.Right(r) != (parts <= 4096) {
			t.Error(parts, partsOf(r), regex.Right(r))
		}
	}
	for levels := 1; levels < 70; levels++ {
		if r := tall(levels); levelsOf(r) != levels || regex.Right(r) != (levels <= 64) {
			t.Error(levels, levelsOf(r), regex.Right(r))
		}
	}
	a := one('a')
	for levels := 60; levels < 68; levels++ { // each level has a kid beside the one that goes on
		r := a
		for i := range levels - 1 {
			r = []func() api.Regex{
				func() api.Regex { return cat(r, a) },
				func() api.Regex { return alt(a, r) },
				func() api.Regex { return cat(a, a, r) },
				func() api.Regex { return and(a, r) },
			}[i%4]()
		}
		if levelsOf(r) != levels || regex.Right(r) != (levels <= 64) {
			t.Error(levels, levelsOf(r), regex.Right(r))
		}
	}
	full := set(dots(0, 2048)...)
	if !regex.Right(full) || !regex.Right(cat(full, set(dots(0, 2045)...))) || regex.Right(cat(full, set(dots(0, 2046)...))) {
		t.Error("sets of many ranges")
	}
	for _, r := range beyond() {
		if regex.Right(r) {
			t.Error("too much is right")
		}
	}
}

func TestNormal(t *testing.T) {
	for _, r := range someTrees(3000) {
		n, e := regex.Normal(r)
		want(t, "Normal", n, e, normalOf(r))
	}
	for _, r := range wrongForms() {
		if regex.Right(r) {
			t.Error("it is right")
		}
		n, e := regex.Normal(r)
		refused(t, "Normal", n, e, api.ErrRegex)
	}
}

func TestNormalAtTheLimits(t *testing.T) {
	for _, r := range []api.Regex{wide(4096), wide(4095), tall(64), tall(63), cat(wide(4095)), not(tall(63))} {
		n, e := regex.Normal(r)
		want(t, "Normal", n, e, normalOf(r))
	}
	deep := one('a')
	for range 63 {
		deep = cat(deep)
	}
	n, e := regex.Normal(deep)
	want(t, "Normal", n, e, one('a'))
	n, e = regex.Normal(cat(deep))
	refused(t, "Normal", n, e, api.ErrRegex)
	n, e = regex.Normal(cat(slices.Repeat([]api.Regex{reEmpty}, 4095)...))
	want(t, "Normal", n, e, reEmpty)
}

// askAll are all calls that take an expression and answer an error, of r and of expressions beside it.
func askAll(r api.Regex) []api.Errno {
	a := one('a')
	var l []api.Errno
	take := func(x api.Regex, e api.Errno) {
		if !same(x, api.Regex{}) {
			e = -1
		}
		l = append(l, e)
	}
	take(regex.Cat(r))
	take(regex.Cat(a, reNone, r))
	take(regex.Cat(r, a))
	take(regex.Alt(r))
	take(regex.Alt(reAll, r, a))
	take(regex.And(r))
	take(regex.And(reNone, a, r))
	take(regex.Not(r))
	take(regex.Star(r))
	take(regex.Repeat(r, 1, 2))
	take(regex.Repeat(r, 0, 0))
	take(regex.Repeat(r, -1, 0))
	take(regex.Repeat(r, 2, 1))
	take(regex.Repeat(r, 256, -1))
	take(regex.Derive(r, 'a'))
	take(regex.Derive(r, -1))
	take(regex.Derive(r, api.MaxRune+1))
	cuts, e := regex.Cuts(r)
	if len(cuts) > 0 {
		e = -1
	}
	s, e2 := regex.Text(r)
	if s != "" {
		e2 = -1
	}
	return append(l, e, e2)
}

func TestWhatIsNotRightIsRefused(t *testing.T) {
	a := one('a')
	wrong := append(wrongForms(), set(), cat(a), cat(a, reEmpty), alt(a, a), and(a, reAll), not(not(a)), star(reNone), star(cat(a, cat(a, a))))
	wrong = append(wrong, twoSets()...)
	for _, r := range wrong {
		for i, e := range askAll(r) {
			if e != api.ErrRegex {
				t.Error(i, e)
			}
		}
		if regex.Size(r) != 0 || regex.Nullable(r) || regex.Match(r) || regex.Match(r, 'a') {
			t.Error("it has a size, or takes a row")
		}
		if regex.Compare(r, a) != 0 || regex.Compare(a, r) != 0 || regex.Compare(r, r) != 0 || regex.Compare(reNone, r) != 0 || regex.Compare(r, not(a)) != 0 {
			t.Error("it has an order")
		}
	}
	for _, r := range []api.Regex{cat(star(a)), star(star(a)), not(not(reEmpty)), alt(star(a), reEmpty)} { // all of them would take the empty row
		if regex.Nullable(r) || regex.Match(r) || regex.Size(r) != 0 {
			t.Error(r)
		}
	}
}
