package regex_test

import (
	"math"
	"math/rand"
	"slices"
	"testing"

	"quoin/api"
	"quoin/regex"
)

// R2: what is made

func TestMadeOfKids(t *testing.T) {
	trees := append(rightTrees(300), someSets()[:7]...)
	chance := rand.New(rand.NewSource(2))
	for range 6000 {
		var l []api.Regex
		for range chance.Intn(5) {
			l = append(l, trees[chance.Intn(len(trees))])
		}
		r, e := regex.Cat(l...)
		want(t, "Cat", r, e, makeOf(cat(l...)))
		r, e = regex.Alt(l...)
		want(t, "Alt", r, e, makeOf(alt(l...)))
		r, e = regex.And(l...)
		want(t, "And", r, e, makeOf(and(l...)))
	}
	for _, x := range trees {
		r, e := regex.Not(x)
		want(t, "Not", r, e, makeOf(not(x)))
		r, e = regex.Star(x)
		want(t, "Star", r, e, makeOf(star(x)))
		for i, way := range []func(...api.Regex) (api.Regex, api.Errno){regex.Cat, regex.Alt, regex.And} {
			r, e = way(x)
			want(t, "of one", r, e, x)
			r, e = way(x, x)
			want(t, "of two", r, e, makeOf(re(api.ReCat+i, x, x)))
			for _, y := range []api.Regex{reNone, reEmpty, reAll} {
				r, e = way(x, y)
				want(t, "of two", r, e, makeOf(re(api.ReCat+i, x, y)))
				r, e = way(y, x)
				want(t, "of two", r, e, makeOf(re(api.ReCat+i, y, x)))
			}
		}
	}
}

func TestMadeByHand(t *testing.T) {
	a, b, c := one('a'), one('b'), one('c')
	ab := set(span('a', 'b'))
	of := func(r api.Regex, e api.Errno) func(api.Regex) {
		return func(meant api.Regex) {
			t.Helper()
			want(t, "made", r, e, meant)
		}
	}
	of(regex.Cat())(reEmpty)
	of(regex.Alt())(reNone)
	of(regex.And())(reAll)
	of(regex.Cat(a, cat(b, c), reEmpty, a))(cat(a, b, c, a))
	of(regex.Cat(cat(a, b), cat(b, c)))(cat(a, b, b, c))
	of(regex.Cat(reEmpty, reEmpty))(reEmpty)
	of(regex.Cat(a, reNone, b))(reNone)
	of(regex.Cat(reNone, a))(reNone)
	of(regex.Cat(a, alt(reEmpty, b)))(cat(a, alt(reEmpty, b)))
	of(regex.Alt(a, b, a))(ab)
	of(regex.Alt(star(a), a, reEmpty, b))(alt(reEmpty, ab, star(a)))
	of(regex.Alt(alt(reEmpty, a), alt(b, cat(a, b))))(alt(reEmpty, ab, cat(a, b)))
	of(regex.Alt(reNone, a))(a)
	of(regex.Alt(reNone, reNone))(reNone)
	of(regex.Alt(a, reAll, star(a)))(reAll)
	of(regex.Alt(a, not(a)))(alt(a, not(a)))
	of(regex.And(a, b))(reNone)
	of(regex.And(a, star(a), b))(reNone)
	of(regex.And(ab, a, star(a)))(and(a, star(a)))
	of(regex.And(ab, set(span('b', 'c'))))(b)
	of(regex.And(and(ab, star(a)), and(ab, not(a))))(and(ab, not(a), star(a)))
	of(regex.And(reAll, a))(a)
	of(regex.And(reAll, reAll))(reAll)
	of(regex.And(a, reNone, reAll))(reNone)
	of(regex.And(alt(reEmpty, a), alt(reEmpty, a)))(alt(reEmpty, a))
	of(regex.Not(not(a)))(a)
	of(regex.Not(reAll))(reNone)
	of(regex.Not(reNone))(reAll)
	of(regex.Not(reEmpty))(not(reEmpty))
	of(regex.Star(star(a)))(star(a))
	of(regex.Star(reNone))(reEmpty)
	of(regex.Star(reEmpty))(reEmpty)
	of(regex.Star(reAll))(star(reAll))
	of(regex.Star(alt(reEmpty, a)))(star(alt(reEmpty, a)))
}

func TestSet(t *testing.T) {
	for _, s := range someSets() {
		r, e := regex.Set(s.Set)
		want(t, "Set", r, e, s)
	}
	r, e := regex.Set(nil)
	want(t, "Set", r, e, reNone)
	r, e = regex.Set([]api.Range{})
	want(t, "Set", r, e, reNone)
	r, e = regex.Set(dots(1, 2048))
	want(t, "Set", r, e, set(dots(1, 2048)...))
	r, e = regex.Set(dots(1, 2049))
	refused(t, "Set", r, e, api.ErrRanges)
	for _, s := range [][]api.Range{{span('b', 'a')}, {span(-1, 0)}, {span(0, api.MaxRune+1)}, {span('a', 'a'), span('b', 'b')}, {span('b', 'b'), span('a', 'a')}} {
		r, e = regex.Set(s)
		refused(t, "Set", r, e, api.ErrSet)
	}
	r, e = regex.Set(append(dots(1, 2049), span(0, 0)))
	refused(t, "Set", r, e, api.ErrSet)
}

func TestWord(t *testing.T) {
	r, e := regex.Word()
	want(t, "Word", r, e, reEmpty)
	r, e = regex.Word('a')
	want(t, "Word", r, e, one('a'))
	r, e = regex.Word('a', 'b', 'a')
	want(t, "Word", r, e, cat(one('a'), one('b'), one('a')))
	r, e = regex.Word(0, api.MaxRune, 0xD800, 0xDFFF)
	want(t, "Word", r, e, cat(one(0), one(api.MaxRune), one(0xD800), one(0xDFFF)))
	for _, c := range []rune{-1, api.MaxRune + 1, math.MaxInt32, math.MinInt32} {
		for _, row := range [][]rune{{c}, {'a', c}, {c, 'a'}, {'a', c, 'a'}, append(make([]rune, 5000), c)} {
			r, e = regex.Word(row...)
			refused(t, "Word", r, e, api.ErrArg)
		}
	}
	var kids []api.Regex
	for range 2047 {
		kids = append(kids, one('x'))
	}
	row := slices.Repeat([]rune{'x'}, 2047)
	r, e = regex.Word(row...)
	want(t, "Word", r, e, cat(kids...)) // 4095 parts
	r, e = regex.Word(append(row, 'x')...)
	refused(t, "Word", r, e, api.ErrSize)
}

// Limits: of what comes, not of what falls away on the way

func TestManyParts(t *testing.T) {
	a := one('a')
	half := wide(2048)
	r, e := regex.Cat(half, half) // one part less: the kids of both stand in one ReCat
	want(t, "Cat", r, e, makeOf(cat(half, half)))
	if regex.Size(r) != 4095 {
		t.Error(regex.Size(r))
	}
	r, e = regex.Cat(half, wide(2049))
	if e != api.OK || regex.Size(r) != 4096 {
		t.Error(regex.Size(r), e)
	}
	r, e = regex.Cat(half, wide(2050))
	refused(t, "Cat", r, e, api.ErrSize)
	r, e = regex.Cat(wide(4096), a)
	refused(t, "Cat", r, e, api.ErrSize)
	r, e = regex.Cat(wide(4096), wide(4096), reNone)
	want(t, "Cat", r, e, reNone)
	r, e = regex.Cat(wide(4096), reEmpty)
	want(t, "Cat", r, e, wide(4096))
	for i, way := range []func(...api.Regex) (api.Regex, api.Errno){regex.Alt, regex.And} {
		r, e = way(wide(2047), wide(2048))
		want(t, "of two", r, e, makeOf(re(api.ReAlt+i, wide(2047), wide(2048))))
		if regex.Size(r) != 4096 {
			t.Error(regex.Size(r))
		}
		r, e = way(wide(2047), wide(2049))
		refused(t, "of two", r, e, api.ErrSize)
		r, e = way(wide(4096), wide(4096), wide(4096))
		want(t, "of two", r, e, wide(4096))
	}
	r, e = regex.Alt(wide(4096), wide(4095), reAll)
	want(t, "Alt", r, e, reAll)
	r, e = regex.And(wide(4096), wide(4095), reNone)
	want(t, "And", r, e, reNone)
	r, e = regex.And(wide(4096), wide(4095), a, one('b'))
	want(t, "And", r, e, reNone)
	for i, way := range []func(api.Regex) (api.Regex, api.Errno){regex.Not, regex.Star} {
		r, e = way(wide(4095))
		want(t, "of one", r, e, re(api.ReNot+i, wide(4095)))
		r, e = way(wide(4096))
		refused(t, "of one", r, e, api.ErrSize)
	}
	r, e = regex.Not(not(wide(4095)))
	want(t, "Not", r, e, wide(4095))
	r, e = regex.Star(star(wide(4095)))
	want(t, "Star", r, e, star(wide(4095)))
}

func TestManyLevels(t *testing.T) {
	a := one('a')
	top := tall(64) // a ReStar
	r, e := regex.Cat(tall(63), a)
	want(t, "Cat", r, e, cat(tall(63), a))
	r, e = regex.Cat(top, a)
	refused(t, "Cat", r, e, api.ErrNest)
	r, e = regex.Cat(a, top)
	refused(t, "Cat", r, e, api.ErrNest)
	r, e = regex.Cat(a, a, top, a)
	refused(t, "Cat", r, e, api.ErrNest)
	r, e = regex.Cat(top, reNone)
	want(t, "Cat", r, e, reNone)
	r, e = regex.Cat(cat(a, tall(63)), cat(a, tall(63)))
	want(t, "Cat", r, e, cat(a, tall(63), a, tall(63)))
	r, e = regex.Alt(top, a)
	refused(t, "Alt", r, e, api.ErrNest)
	r, e = regex.Alt(top, reAll, top)
	want(t, "Alt", r, e, reAll)
	r, e = regex.And(top, a)
	refused(t, "And", r, e, api.ErrNest)
	r, e = regex.And(top, reAll, top)
	want(t, "And", r, e, top)
	r, e = regex.Not(top)
	refused(t, "Not", r, e, api.ErrNest)
	r, e = regex.Not(tall(63))
	want(t, "Not", r, e, tall(63).Kids[0])
	r, e = regex.Star(top)
	want(t, "Star", r, e, top)
	r, e = regex.Star(tall(63))
	want(t, "Star", r, e, top)
	r, e = regex.Star(cat(tall(63), a))
	refused(t, "Star", r, e, api.ErrNest)
}

// big is a right tree of so many parts and levels.
func big(parts, levels int) api.Regex {
	l := wide(parts - levels + 2).Kids
	return cat(append(slices.Clone(l[:len(l)-1]), tall(levels-1))...)
}

// fat is a right tree of so many parts that has 64 levels.
func fat(parts int) api.Regex { return big(parts, 64) }

func TestManyPartsAndLevels(t *testing.T) {
	if r := fat(4096); partsOf(r) != 4096 || levelsOf(r) != 64 || !isRight(r) {
		t.Fatal(partsOf(r), levelsOf(r))
	}
	for parts, meant := range map[int]api.Errno{4096: api.ErrSize, 4095: api.ErrNest, 3000: api.ErrNest} {
		r, e := regex.Not(fat(parts))
		refused(t, "Not", r, e, meant)
		r, e = regex.Star(fat(parts))
		refused(t, "Star", r, e, meant)
		r, e = regex.Repeat(fat(parts), 0, -1)
		refused(t, "Repeat", r, e, meant)
		r, e = regex.Alt(fat(parts), reEmpty)
		refused(t, "Alt", r, e, map[bool]api.Errno{true: api.ErrSize, false: api.ErrNest}[parts > 4094])
	}
}

// Sets that together would have too many ranges

func TestManyRanges(t *testing.T) {
	low, high := set(dots(0, 1024)...), set(dots(3000, 1024)...)
	all := append(dots(0, 1024), dots(3000, 1024)...)
	r, e := regex.Alt(low, high)
	want(t, "Alt", r, e, set(all...))
	more := one(2500)
	r, e = regex.Alt(low, high, more)
	refused(t, "Alt", r, e, api.ErrRanges)
	r, e = regex.Alt(low, high, more, set(span(1, 5000)))
	want(t, "Alt", r, e, makeOf(alt(low, high, more, set(span(1, 5000)))))
	r, e = regex.Alt(low, reAll, high, more)
	want(t, "Alt", r, e, reAll)
	r, e = regex.Alt(set(dots(0, 2048)...), set(dots(5000, 2048)...)) // 4097 parts, if there were such a set
	refused(t, "Alt", r, e, api.ErrRanges)
	r, e = regex.Normal(alt(low, high, more))
	refused(t, "Normal", r, e, api.ErrRanges)
	r, e = regex.Normal(alt(low, not(alt(high, low, more))))
	refused(t, "Normal", r, e, api.ErrRanges)

	bars := func(from, size rune, n int) api.Regex {
		var l []api.Range
		for i := range rune(n) {
			l = append(l, span(from+10*i, from+10*i+size-1))
		}
		return set(l...)
	}
	r, e = regex.And(bars(0, 6, 800), bars(4, 7, 800)) // each two meet in two places, but the last
	want(t, "And", r, e, makeOf(and(bars(0, 6, 800), bars(4, 7, 800))))
	r, e = regex.And(bars(0, 6, 1100), bars(4, 7, 1100))
	refused(t, "And", r, e, api.ErrRanges)
	r, e = regex.And(bars(0, 6, 1100), bars(4, 7, 1100), reNone)
	want(t, "And", r, e, reNone)
	r, e = regex.And(bars(0, 6, 1100), bars(4, 7, 1100), set(span(0, 12)))
	want(t, "And", r, e, set(span(4, 5), span(10, 10)))
	r, e = regex.Normal(and(bars(0, 6, 1100), bars(4, 7, 1100)))
	refused(t, "Normal", r, e, api.ErrRanges)
}

func TestRepeat(t *testing.T) {
	a := one('a')
	trees := append(rightTrees(5), tall(64), tall(63), tall(62), tall(60), cat(tall(40), a), wide(100), wide(1365), fat(130), big(2046, 63), big(2047, 63), big(2047, 62), big(1024, 61), wide(4096), fat(4096))
	for _, r := range trees {
		times := []int{math.MinInt, -256, -2, -1, 0, 1, 2, 3, 31, 32, 33, 34, 63, 64, 254, 255, 256, 257, math.MaxInt}
		if partsOf(r) > 99 {
			times = []int{-1, 0, 1, 2, 3, 4, 30, 40}
		}
		for _, lo := range times {
			for _, hi := range times {
				meant, why := repeatOf(r, lo, hi)
				x, e := regex.Repeat(r, lo, hi)
				if why != api.OK {
					refused(t, "Repeat", x, e, why)
				} else {
					want(t, "Repeat", x, e, meant)
				}
			}
		}
	}
	for i, hi := range []int{0, 1, 2, 3} {
		meant := []api.Regex{reEmpty, alt(reEmpty, a), alt(reEmpty, cat(a, alt(reEmpty, a))), alt(reEmpty, cat(a, alt(reEmpty, cat(a, alt(reEmpty, a)))))}[i]
		x, e := regex.Repeat(a, 0, hi)
		want(t, "Repeat", x, e, meant)
	}
	x, e := regex.Repeat(a, 2, 3)
	want(t, "Repeat", x, e, cat(a, a, alt(reEmpty, a)))
	x, e = regex.Repeat(cat(a, a), 2, -1)
	want(t, "Repeat", x, e, cat(a, a, a, a, star(cat(a, a))))
	x, e = regex.Repeat(reNone, 0, 255)
	want(t, "Repeat", x, e, reEmpty)
	x, e = regex.Repeat(reNone, 255, 255)
	want(t, "Repeat", x, e, reNone)
	x, e = regex.Repeat(reEmpty, 255, 255)
	want(t, "Repeat", x, e, reEmpty)
	x, e = regex.Repeat(a, 255, 255)
	want(t, "Repeat", x, e, cat(slices.Repeat([]api.Regex{a}, 255)...))
	x, e = regex.Repeat(a, 223, 255)
	refused(t, "Repeat", x, e, api.ErrNest) // the ReAlts alone have 64 levels, and stand in a ReCat
	x, e = regex.Repeat(a, 0, 32)
	if e != api.OK || levelsOf(x) != 64 {
		t.Error(e, levelsOf(x))
	}
	x, e = regex.Repeat(big(2047, 63), 0, 2) // its ReCat has 4096 parts, its ReAlt more
	refused(t, "Repeat", x, e, api.ErrNest)
	x, e = regex.Repeat(wide(100), 0, 255) // it lies too deep ahead of having too many parts
	refused(t, "Repeat", x, e, api.ErrNest)
	x, e = regex.Repeat(wide(200), 0, 255)
	refused(t, "Repeat", x, e, api.ErrSize)
}
