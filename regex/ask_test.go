package regex_test

import (
	"math"
	"math/rand"
	"slices"
	"strings"
	"testing"

	"quoin/api"
	"quoin/regex"
	"quoin/runes"
)

// R3, R7: sizes, the order, which rows are taken

func TestSize(t *testing.T) {
	for _, r := range append(rightTrees(500), wide(4096), wide(4095), tall(64), fat(4096), set(dots(0, 2048)...)) {
		if n := regex.Size(r); n != partsOf(r) {
			t.Error(brief(r), n, partsOf(r))
		}
	}
	if regex.Size(reNone) != 1 || regex.Size(reAll) != 2 || regex.Size(set(dots(0, 7)...)) != 8 || regex.Size(cat(one('a'), one('a'))) != 5 {
		t.Error("a size")
	}
}

func TestCompare(t *testing.T) {
	trees := append(rightTrees(150), someSets()...)
	for _, c := range []rune{0, 1, 0x100, 0x101, 0x10000, 0x10100, 0x100000, 0x10FFFF} {
		trees = append(trees, one(c), not(one(c)), set(span(0, c)), cat(one(c), one('a')))
	}
	for _, a := range trees {
		for _, b := range trees {
			if d := regex.Compare(a, b); d != orderOf(a, b) {
				t.Error(brief(a), brief(b), d)
			}
		}
	}
}

func TestCompareByHand(t *testing.T) {
	a, b := one('a'), one('b')
	rising := []api.Regex{
		reNone, reEmpty, set(span('a', 'a')), set(span('a', 'a'), span('c', 'c')), set(span('a', 'b')), b,
		cat(a, a), cat(a, a, a), cat(a, a, b), cat(a, b), cat(a, b, a), cat(b, a), cat(b, star(a)),
		alt(reEmpty, a), alt(reEmpty, a, cat(a, b)), alt(reEmpty, b), alt(a, cat(a, a)), alt(a, cat(a, b)),
		and(reEmpty, b), and(a, star(a)), reAll, not(reEmpty), not(a), not(b), not(cat(a, b)), star(a), star(b), star(reAll),
	}
	for i, x := range rising {
		if !regex.Right(x) {
			t.Error(brief(x))
		}
		for j, y := range rising {
			meant := 0
			if i < j {
				meant = -1
			} else if i > j {
				meant = 1
			}
			if d := regex.Compare(x, y); d != meant {
				t.Error(brief(x), brief(y), d)
			}
		}
	}
}

func TestMatch(t *testing.T) {
	rows := someRows(5)
	for _, r := range someTrees(400) {
		made := normalOf(r)
		if regex.Nullable(made) != takes(r, nil) {
			t.Error(brief(made))
		}
		for _, row := range rows {
			if regex.Match(made, row...) != takes(r, row) {
				t.Error(brief(made), string(row))
			}
		}
	}
}

func TestMatchOfWhatCallsMake(t *testing.T) {
	chance := rand.New(rand.NewSource(8))
	trees := rightTrees(60)
	rows := someRows(4)
	check := func(r api.Regex, e api.Errno, meant api.Regex) {
		t.Helper()
		for _, row := range rows {
			if e != api.OK || regex.Match(r, row...) != takes(meant, row) {
				t.Error(brief(r), string(row), e)
			}
		}
	}
	for range 150 {
		x, y, z := trees[chance.Intn(len(trees))], trees[chance.Intn(len(trees))], trees[chance.Intn(len(trees))]
		r, e := regex.Cat(x, y, z)
		check(r, e, cat(x, y, z))
		r, e = regex.Alt(x, y, z)
		check(r, e, alt(x, y, z))
		r, e = regex.And(x, y, z)
		check(r, e, and(x, y, z))
		r, e = regex.Not(x)
		check(r, e, not(x))
		r, e = regex.Star(x)
		check(r, e, star(x))
		raw := chosen(chance, 4)
		r, e = regex.Normal(raw)
		check(r, e, raw)
		lo, hi := chance.Intn(3), chance.Intn(6)-1
		if hi >= 0 && hi < lo {
			continue
		}
		times := alt()
		for n := lo; n <= max(hi, 4); n++ {
			times.Kids = append(times.Kids, cat(slices.Repeat([]api.Regex{x}, n)...))
		}
		if hi < 0 {
			times.Kids = append(times.Kids, cat(append(slices.Repeat([]api.Regex{x}, lo), star(x))...))
		} else {
			times.Kids = times.Kids[:hi-lo+1]
		}
		r, e = regex.Repeat(x, lo, hi)
		check(r, e, times)
	}
	for range 40 {
		row := rows[chance.Intn(len(rows))]
		r, e := regex.Word(row...)
		for _, other := range rows {
			if e != api.OK || regex.Match(r, other...) != slices.Equal(row, other) {
				t.Error(string(row), string(other), e)
			}
		}
	}
}

func TestMatchOfOtherNumbers(t *testing.T) {
	for _, c := range []rune{-1, api.MaxRune + 1, math.MaxInt32, math.MinInt32} {
		for _, r := range []api.Regex{reAll, star(set(span(0, api.MaxRune))), not(one('a'))} {
			if regex.Match(r, c) || regex.Match(r, 'b', c) || regex.Match(r, c, 'b') || !regex.Match(r, 'b', 'b') {
				t.Error(brief(r), c)
			}
		}
	}
	for _, s := range someSets() {
		for _, c := range []rune{0, 'a' - 1, 'a', 'b', 'c', 'd', 'z', 'z' + 1, 0xD7FF, 0xD800, 0xDFFF, 0xE000, api.MaxRune} {
			if regex.Match(s, c) != runes.Has(s.Set, c) || regex.Match(s, c, c) || regex.Match(not(s), c) == runes.Has(s.Set, c) {
				t.Error(brief(s), c)
			}
		}
	}
}

// What is derived on the way may be more than an expression may have: Match knows no limits.

func TestMatchBeyondTheLimits(t *testing.T) {
	maybe := alt(reEmpty, one('a'))
	r := cat(slices.Repeat([]api.Regex{maybe}, 1000)...)
	if _, e := regex.Derive(r, 'a'); e != api.ErrSize {
		t.Error(e)
	}
	row := slices.Repeat([]rune{'a'}, 1001)
	for _, n := range []int{0, 1, 2, 500, 999, 1000, 1001} {
		if regex.Match(r, row[:n]...) != (n <= 1000) || regex.Match(r, append(row[:n:n], 'b')...) {
			t.Error(n)
		}
	}
	low, high := set(dots(0, 1500)...), set(dots(4001, 1500)...)
	r = alt(cat(one('a'), low), cat(one('a'), high))
	if !regex.Right(r) || !regex.Match(r, 'a', 2) || !regex.Match(r, 'a', 4001) || regex.Match(r, 'a', 1) || regex.Match(r, 'a', 4002) || regex.Match(r, 'a') || regex.Match(r, 'a', 2, 2) {
		t.Error("sets whose runes together are no set")
	}
	r = and(cat(one('a'), low), cat(one('a'), set(span(0, 5), span(20, 3000))))
	if !regex.Match(r, 'a', 4) || regex.Match(r, 'a', 6) || !regex.Match(r, 'a', 20) {
		t.Error("sets that meet")
	}
	deep := tall(64)
	if !regex.Match(deep, 'a', 'a', 'b') || !regex.Match(deep) {
		t.Error("a tall one")
	}
}

func TestMatchOfLongRows(t *testing.T) {
	long := []rune(strings.Repeat("ab", 60000))
	r := parsed(t, `!(.* "aa" .*) & .+ & (.* "ba" .*)`)
	if !regex.Match(r, long...) || regex.Match(r, append(slices.Clone(long), 'a', 'a')...) {
		t.Error("a long row")
	}
	r = parsed(t, `.* [a] .{12}`) // what is left has some 2^12 forms
	chance := rand.New(rand.NewSource(4))
	for i := range long {
		long[i] = 'a' + rune(chance.Intn(2))
	}
	for n := 5000; n < 5020; n++ {
		if regex.Match(r, long[:n]...) != (long[n-13] == 'a') {
			t.Error(n)
		}
	}
	r = parsed(t, `!([a]* !([b]* !([a]* !([b] [a]) [b]*) .) [a]*)`)
	for _, row := range someRows(6) {
		if regex.Match(r, row...) != takes(r, row) {
			t.Error(string(row))
		}
	}
	regex.Match(r, long[:150]...)
}
