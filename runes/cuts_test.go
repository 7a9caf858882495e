package runes_test

import (
	"slices"
	"testing"

	"quoin/api"
	"quoin/runes"
)

// U3, U7

// cutsOf are the cuts of sets, by what each has of each rune.
func cutsOf(sets ...[]bool) []rune {
	l := []rune{0}
	for r := 1; r < runeCount; r++ {
		if slices.ContainsFunc(sets, func(m []bool) bool { return m[r] != m[r-1] }) {
			l = append(l, rune(r))
		}
	}
	return l
}

func checkCuts(t *testing.T, l []rune, e api.Errno, meant []rune) {
	t.Helper()
	if e != api.OK || !slices.Equal(l, meant) {
		t.Errorf("%x %v, want %x", l, e, meant)
	}
}

func TestCuts(t *testing.T) {
	l, e := runes.Cuts()
	checkCuts(t, l, e, []rune{0})
	sets := samples()
	for _, a := range sets {
		m := members(a...)
		l, e := runes.Cuts(a)
		checkCuts(t, l, e, cutsOf(m))
		for _, b := range sets[:14] {
			l, e := runes.Cuts(a, b)
			checkCuts(t, l, e, cutsOf(m, members(b...)))
		}
	}
	var all [][]bool
	for _, s := range sets {
		all = append(all, members(s...))
	}
	l, e = runes.Cuts(sets...)
	checkCuts(t, l, e, cutsOf(all...))
}

func TestCutsPartSets(t *testing.T) {
	sets := samples()
	l, e := runes.Cuts(sets...)
	if e != api.OK || l[0] != 0 {
		t.Fatal(l, e)
	}
	has := func(r rune) (in []bool) {
		for _, s := range sets {
			in = append(in, runes.Has(s, r))
		}
		return in
	}
	for i, cut := range l {
		if i > 0 && slices.Equal(has(cut-1), has(cut)) {
			t.Errorf("%x is none", cut)
		}
		end := rune(runeCount)
		if i+1 < len(l) {
			end = l[i+1]
		}
		here := has(cut)
		for r := cut; r < min(end, cut+300); r++ {
			if !slices.Equal(has(r), here) {
				t.Errorf("%x is not as %x", r, cut)
			}
		}
		if !slices.Equal(has(end-1), here) {
			t.Errorf("%x is not as %x", end-1, cut)
		}
	}
}

func TestManyCuts(t *testing.T) {
	last := span(0x10FFF0, 0x10FFFF)
	l, e := runes.Cuts(dots(1, 1023), set(last))
	if e != api.OK || len(l) != 2048 {
		t.Error(len(l), e)
	}
	l, e = runes.Cuts(dots(1, 1023), set(last), set(span(0, 0x10FFEF)), dots(1, 1023))
	if e != api.OK || len(l) != 2048 {
		t.Error(len(l), e)
	}
	for _, sets := range [][][]api.Range{
		{append(dots(1, 1023), last), set(span(0x10FFF1, 0x10FFFF))},
		{dots(1, 2048)},
		{bars(1, 3, 6, 1024)},
		{dots(1, 1024), dots(1, 1024), dots(0, 1025)},
	} {
		if l, e := runes.Cuts(sets...); len(l) != 0 || e != api.ErrRanges {
			t.Error(len(l), e)
		}
	}
	l, e = runes.Cuts(dots(0, 1500), dots(1, 1500)) // 1 to 3000, and 0
	if len(l) != 0 || e != api.ErrRanges {
		t.Error(len(l), e)
	}
	l, e = runes.Cuts(dots(0, 1024), dots(1, 1023)) // 1 to 2047, and 0
	if len(l) != 2048 || e != api.OK {
		t.Error(len(l), e)
	}
}

// classOf is how many of cuts, but the first, are not above r.
func classOf(cuts []rune, r rune) int {
	n := 0
	for i, c := range cuts {
		if i > 0 && c <= r {
			n++
		}
	}
	return n
}

func TestClass(t *testing.T) {
	for _, cuts := range [][]rune{
		nil,
		{0},
		{0, 97},
		{0, 97, 101, 102, 123},
		{0, 1, 2, 3, 0x10FFFF},
		{5, 7},
		{97},
		{-7, -3, 0, 4, 0x7FFFFFFE, 0x7FFFFFFF},
		{-1 << 31, -1<<31 + 1},
	} {
		places := []rune{-1 << 31, -1<<31 + 1, -8, -7, -4, -3, -1, 0x10FFFE, 0x10FFFF, 0x110000, 0x7FFFFFFD, 0x7FFFFFFE, 0x7FFFFFFF}
		for r := rune(0); r < 200; r++ {
			places = append(places, r)
		}
		for _, r := range places {
			if n := runes.Class(cuts, r); n != classOf(cuts, r) {
				t.Error(cuts, r, n)
			}
		}
	}
}

func TestClassIsWhereItsCutIs(t *testing.T) {
	cuts, e := runes.Cuts(samples()...)
	if e != api.OK {
		t.Fatal(e)
	}
	for r := range rune(runeCount) {
		n := runes.Class(cuts, r)
		if cuts[n] > r || n+1 < len(cuts) && cuts[n+1] <= r {
			t.Fatal(r, n)
		}
	}
}

func TestClassOfOtherRows(t *testing.T) {
	for _, cuts := range [][]rune{
		{5, 4, 3, 2, 1, 0},
		{0, 0, 0, 0},
		{0, 9, 3, 9, 3, 9},
		{-1, 1 << 30, -1 << 31, 7},
		{97, 0},
	} {
		for r := rune(-12); r < 120; r++ {
			n := runes.Class(cuts, r)
			if n < 0 || n > len(cuts) || runes.Class(slices.Clone(cuts), r) != n {
				t.Error(cuts, r, n)
			}
		}
	}
}
