package runes_test

import (
	"math/rand"
	"testing"

	"quoin/api"
	"quoin/runes"
)

// U2, U5, U6

func TestOfNoSets(t *testing.T) {
	all := set(span(0, 0x10FFFF))
	s, e := runes.Union()
	want(t, "Union of none", s, e, nil)
	s, e = runes.Meet()
	want(t, "Meet of none", s, e, all)
	s, e = runes.Not(nil)
	want(t, "Not of none", s, e, all)
	s, e = runes.Not(all)
	want(t, "Not of all", s, e, nil)
}

func TestAlgebraOfOne(t *testing.T) {
	for _, a := range samples() {
		m := members(a...)
		s, e := runes.Union(a)
		want(t, "Union", s, e, a)
		s, e = runes.Meet(a)
		want(t, "Meet", s, e, a)
		s, e = runes.Not(a)
		want(t, "Not", s, e, each(func(r int) bool { return !m[r] }))
		back, e := runes.Not(s)
		want(t, "Not of Not", back, e, a)
		if runes.Size(a)+runes.Size(s) != 0x10FFFF+1 {
			t.Error(a, runes.Size(a), runes.Size(s))
		}
	}
}

func TestAlgebraOfTwo(t *testing.T) {
	l := samples()
	var in [][]bool
	for _, s := range l {
		in = append(in, members(s...))
	}
	for i, a := range l {
		for j, b := range l {
			if (i+j)%4 > 0 && max(i, j) > 8 { // the edges all, of the others some
				continue
			}
			m, n := in[i], in[j]
			s, e := runes.Union(a, b)
			want(t, "Union", s, e, each(func(r int) bool { return m[r] || n[r] }))
			s, e = runes.Meet(a, b)
			want(t, "Meet", s, e, each(func(r int) bool { return m[r] && n[r] }))
			s, e = runes.Minus(a, b)
			want(t, "Minus", s, e, each(func(r int) bool { return m[r] && !n[r] }))
		}
	}
}

func TestAlgebraOfMany(t *testing.T) {
	chance := rand.New(rand.NewSource(3))
	for n := range 7 {
		var sets [][]api.Range
		var in [][]bool
		for range n {
			s := chosen(chance, 60, 4)
			if n > 3 { // else no rune is in all of them
				s = listOf(members(append(s, span(20, 24))...))
			}
			sets, in = append(sets, s), append(in, members(s...))
		}
		count := func(r int) int {
			k := 0
			for _, m := range in {
				if m[r] {
					k++
				}
			}
			return k
		}
		s, e := runes.Union(sets...)
		want(t, "Union", s, e, each(func(r int) bool { return count(r) > 0 }))
		s, e = runes.Meet(sets...)
		want(t, "Meet", s, e, each(func(r int) bool { return count(r) == n }))
	}
}

// U1: an answer of MaxRanges ranges, and one of one more

func TestUnionOfManyRanges(t *testing.T) {
	a, b := dots(0, 1024), dots(3000, 1024)
	s, e := runes.Union(a, b)
	want(t, "Union", s, e, append(dots(0, 1024), b...))
	s, e = runes.Union(a, b, set(span(9000, 9000)))
	refused(t, "Union", s, e, api.ErrRanges)
	s, e = runes.Union(a, set(span(9000, 9000)), b, set(span(1, 9000))) // more on the way than at the end
	want(t, "Union", s, e, set(span(0, 9000)))
	s, e = runes.Union(dots(0, 2048), dots(1, 2048))
	want(t, "Union", s, e, set(span(0, 4095)))
}

func TestMeetOfManyRanges(t *testing.T) {
	a, b := bars(0, 6, 10, 1024), bars(4, 7, 10, 1024) // each two meet in two places, but the last
	two, e := runes.Meet(a, b)
	if e != api.OK || len(two) != 2047 {
		t.Error(len(two), e)
	}
	want(t, "Meet", two[:2], e, set(span(4, 5), span(10, 10)))
	s, e := runes.Meet(a, append(set(span(0, 0)), b...))
	if e != api.OK || len(s) != 2048 {
		t.Error(len(s), e)
	}
	a, b = bars(0, 6, 10, 1100), bars(4, 7, 10, 1100)
	s, e = runes.Meet(a, b)
	refused(t, "Meet", s, e, api.ErrRanges)
	s, e = runes.Meet(a, b, set(span(0, 15))) // more on the way than at the end
	want(t, "Meet", s, e, set(span(4, 5), span(10, 10), span(14, 15)))
}

func TestMinusOfManyRanges(t *testing.T) {
	all := set(span(0, 0x10FFFF))
	s, e := runes.Minus(all, dots(0, 2048))
	if e != api.OK || len(s) != 2048 || s[0] != span(1, 1) || s[2047] != span(4095, 0x10FFFF) {
		t.Error(len(s), e)
	}
	s, e = runes.Minus(all, dots(1, 2048))
	refused(t, "Minus", s, e, api.ErrRanges)
	s, e = runes.Minus(set(span(0, 5)), dots(1, 2048)) // more on the way than at the end
	want(t, "Minus", s, e, dots(0, 3))
}

func TestNotOfManyRanges(t *testing.T) {
	s, e := runes.Not(dots(0, 2048))
	if e != api.OK || len(s) != 2048 {
		t.Error(len(s), e)
	}
	s, e = runes.Not(dots(0x110000-4095, 2048)) // the last one is the last rune
	if e != api.OK || len(s) != 2048 {
		t.Error(len(s), e)
	}
	s, e = runes.Not(dots(0x110000-4096, 2048))
	refused(t, "Not", s, e, api.ErrRanges)
	s, e = runes.Not(dots(1, 2048))
	refused(t, "Not", s, e, api.ErrRanges)
}
