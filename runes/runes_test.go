package runes_test

import (
	"math/rand"
	"slices"
	"testing"

	"quoin/api"
	"quoin/runes"
)

// U1

func TestCheck(t *testing.T) {
	for _, s := range samples() {
		if e := runes.Check(s); e != api.OK {
			t.Error(s, e)
		}
	}
	for _, s := range wrongSets() {
		if e := runes.Check(s); e != api.ErrSet {
			t.Error(s, e)
		}
	}
}

func TestCheckOfFewRanges(t *testing.T) {
	edges := []rune{-1 << 31, -1, 0, 1, 2, 3, 0xD7FF, 0xE000, 0x10FFFE, 0x10FFFF, 0x110000, 1<<31 - 1}
	check := func(s []api.Range) {
		meant := api.ErrSet
		if isSet(s) {
			meant = api.OK
		}
		if e := runes.Check(s); e != meant {
			t.Errorf("%x: %v, want %v", s, e, meant)
		}
	}
	for _, a := range edges {
		for _, b := range edges {
			check(set(span(a, b)))
			for _, c := range edges {
				for _, d := range edges {
					check(set(span(a, b), span(c, d)))
				}
			}
		}
	}
}

func TestCheckOfManyRanges(t *testing.T) {
	for n, meant := range map[int]api.Errno{2047: api.OK, 2048: api.OK, 2049: api.ErrRanges, 9000: api.ErrRanges} {
		if e := runes.Check(dots(5, n)); e != meant {
			t.Error(n, e)
		}
	}
	if api.MaxRanges != 2048 {
		t.Error(api.MaxRanges)
	}
}

// manyCalls are the errors of all calls that take two sets or more; -1, where something is answered beside one.
func manyCalls(a, b []api.Range) map[string]api.Errno {
	answers := map[string]api.Errno{}
	nothing := func(what string, empty bool, e api.Errno) {
		if !empty {
			e = -1
		}
		answers[what] = e
	}
	l, e := runes.Union(a, b)
	nothing("Union", len(l) == 0, e)
	l, e = runes.Union(nil, a, b)
	nothing("Union of three", len(l) == 0, e)
	l, e = runes.Meet(a, b)
	nothing("Meet", len(l) == 0, e)
	l, e = runes.Meet(nil, a, b)
	nothing("Meet of three", len(l) == 0, e)
	l, e = runes.Minus(a, b)
	nothing("Minus", len(l) == 0, e)
	n, e := runes.Compare(a, b)
	nothing("Compare", n == 0, e)
	c, e := runes.Cuts(a, b)
	nothing("Cuts", len(c) == 0, e)
	c, e = runes.Cuts(nil, a, b)
	nothing("Cuts of three", len(c) == 0, e)
	return answers
}

func TestCallsRefuseWhatCheckRefuses(t *testing.T) {
	right, many := set(span(97, 99)), dots(0, 2049)
	check := func(a, b []api.Range, meant api.Errno) {
		t.Helper()
		for what, e := range manyCalls(a, b) {
			if e != meant {
				t.Error(what, e, meant)
			}
		}
	}
	for _, wrong := range wrongSets() {
		check(wrong, right, api.ErrSet)
		check(right, wrong, api.ErrSet)
		check(wrong, many, api.ErrSet)
		check(many, wrong, api.ErrRanges)
		l, e := runes.Not(wrong)
		refused(t, "Not", l, e, api.ErrSet)
		if s, e := runes.Text(wrong); s != "" || e != api.ErrSet {
			t.Error(s, e)
		}
	}
	check(many, right, api.ErrRanges)
	check(right, many, api.ErrRanges)
	l, e := runes.Not(many)
	refused(t, "Not", l, e, api.ErrRanges)
	if s, e := runes.Text(many); s != "" || e != api.ErrRanges {
		t.Error(s, e)
	}
}

func TestOf(t *testing.T) {
	for _, l := range [][]api.Range{
		{},
		{span(98, 99), span(97, 97), span(120, 122)},
		{span(97, 98), span(99, 100)},
		{span(99, 100), span(97, 98)},
		{span(97, 110), span(98, 99), span(100, 120)},
		{span(97, 97), span(97, 97)},
		{span(97, 97), span(99, 99)},
		{span(97, 99), span(97, 98)},
		{span(97, 98), span(97, 99), span(101, 101)},
		{span(0x10FFFF, 0x10FFFF), span(0, 0)},
		{span(0x10FFFF, 0x10FFFF), span(0, 0x10FFFE)},
		{span(0, 0x10FFFF), span(5, 5), span(0x10FFFF, 0x10FFFF)},
		{span(0xD800, 0xDFFF)},
		{span(0xE000, 0xE000), span(0xD7FF, 0xD7FF)},
	} {
		s, e := runes.Of(l...)
		want(t, "Of", s, e, listOf(members(l...)))
	}
}

func TestOfAnyOrder(t *testing.T) {
	chance := rand.New(rand.NewSource(1))
	for i := range 2000 {
		var l []api.Range
		for range chance.Intn(9) {
			lo := rune(chance.Intn(30))
			l = append(l, span(lo, lo+rune(chance.Intn(1+i%7))))
		}
		s, e := runes.Of(l...)
		var meant []api.Range
		for r := rune(0); r < 40; r++ {
			if !slices.ContainsFunc(l, func(x api.Range) bool { return x.Lo <= r && r <= x.Hi }) {
				continue
			}
			if n := len(meant); n > 0 && meant[n-1].Hi == r-1 {
				meant[n-1].Hi = r
			} else {
				meant = append(meant, span(r, r))
			}
		}
		want(t, "Of", s, e, meant)
	}
}

func TestOfRefuses(t *testing.T) {
	for _, x := range []api.Range{
		span(98, 97), span(-1, 97), span(-2, -1), span(97, -1), span(97, 0x110000), span(0x110000, 0x110000), span(0x110000, 97), span(-1<<31, 1<<31-1), span(0x10FFFF, 1<<31-1),
	} {
		s, e := runes.Of(x)
		refused(t, "Of", s, e, api.ErrArg)
		s, e = runes.Of(span(97, 98), x)
		refused(t, "Of", s, e, api.ErrArg)
		s, e = runes.Of(append(dots(0, 2049), x)...)
		refused(t, "Of", s, e, api.ErrArg)
	}
}

func TestOfManyRanges(t *testing.T) {
	s, e := runes.Of(dots(1, 2048)...)
	want(t, "Of", s, e, dots(1, 2048))
	s, e = runes.Of(dots(1, 2049)...)
	refused(t, "Of", s, e, api.ErrRanges)
	both := append(dots(1, 5000), dots(2, 5000)...) // more than a set has, but they touch
	s, e = runes.Of(both...)
	want(t, "Of", s, e, set(span(1, 10000)))
}

// U2

func TestHas(t *testing.T) {
	for _, s := range samples() {
		m := members(s...)
		for r := range m {
			if runes.Has(s, rune(r)) != m[r] {
				t.Fatalf("%x %x", s, r)
			}
		}
		for _, r := range []rune{-1 << 31, -1, 0x110000, 1<<31 - 1} {
			if runes.Has(s, r) {
				t.Errorf("%x %x", s, r)
			}
		}
	}
}

func TestHasOfAnyRanges(t *testing.T) {
	l := set(span(120, 122), span(50, 40), span(97, 99), span(98, 110), span(48, 48), span(47, 49))
	l = append(l, dots(200, 3000)...)
	for r := rune(-5); r < 7000; r++ {
		meant := r >= 120 && r <= 122 || r >= 97 && r <= 110 || r >= 47 && r <= 49 || r >= 200 && r < 6200 && r%2 == 0
		if runes.Has(l, r) != meant {
			t.Error(r)
		}
	}
}

func TestCompare(t *testing.T) {
	rising := [][]api.Range{
		nil,
		set(span(0, 0)),
		set(span(0, 0), span(2, 2)),
		set(span(0, 0), span(2, 2), span(0x10FFFF, 0x10FFFF)),
		set(span(0, 0), span(2, 3)),
		set(span(0, 0), span(3, 3)),
		set(span(0, 1)),
		set(span(0, 1), span(3, 3)),
		set(span(0, 2)),
		set(span(0, 0x10FFFF)),
		set(span(1, 1)),
		set(span(1, 1), span(3, 0x10FFFF)),
		set(span(0x10FFFF, 0x10FFFF)),
	}
	for i, a := range rising {
		for j, b := range rising {
			meant := 0
			if i < j {
				meant = -1
			}
			if i > j {
				meant = 1
			}
			if n, e := runes.Compare(a, b); n != meant || e != api.OK {
				t.Error(a, b, n, e)
			}
		}
	}
	if n, e := runes.Compare(dots(0, 2048), dots(0, 2047)); n != 1 || e != api.OK {
		t.Error(n, e)
	}
}

func TestSize(t *testing.T) {
	for _, s := range samples() {
		n := 0
		for _, in := range members(s...) {
			if in {
				n++
			}
		}
		if runes.Size(s) != n {
			t.Error(s, runes.Size(s), n)
		}
	}
	for _, s := range append(wrongSets(), dots(0, 2049)) {
		if n := runes.Size(s); n != 0 {
			t.Error(s, n)
		}
	}
	if n := runes.Size(dots(0, 2048)); n != 2048 {
		t.Error(n)
	}
}

func TestAll(t *testing.T) {
	for _, s := range samples() {
		var meant []rune
		for r, in := range members(s...) {
			if in {
				meant = append(meant, rune(r))
			}
		}
		if l := slices.Collect(runes.All(s)); !slices.Equal(l, meant) {
			t.Errorf("%x: %d runes, want %d", s, len(l), len(meant))
		}
	}
	for _, s := range append(wrongSets(), dots(0, 2049)) {
		for r := range runes.All(s) {
			t.Fatal(s, r)
		}
	}
	if l := slices.Collect(runes.All(dots(0, 2048))); len(l) != 2048 {
		t.Error(len(l))
	}
}

func TestAllIsLeftAndGoneOverAgain(t *testing.T) {
	s := set(span(97, 99), span(120, 122))
	all := runes.All(s)
	for stop := 1; stop <= 6; stop++ {
		var l []rune
		for r := range all {
			l = append(l, r)
			if len(l) == stop {
				break
			}
		}
		if string(l) != "abcxyz"[:stop] {
			t.Error(stop, l)
		}
	}
	var pairs []rune
	for a := range all {
		for b := range all {
			pairs = append(pairs, a, b)
		}
	}
	if len(pairs) != 72 || string(pairs[:14]) != "aaabacaxayazba" {
		t.Error(string(pairs))
	}
}
