package dfa_test

import (
	"math"
	"math/rand"
	"slices"
	"testing"

	"quoin/api"
	"quoin/dfa"
)

// P5.2: automata that may be, steps, what is accepted

// wrongAutos are automata that may not be, by what is wrong with them.
func wrongAutos() map[string]api.Dfa {
	ok := func(turn func(d *api.Dfa)) api.Dfa {
		d := auto([]rune{0, 'a', 'b'}, []int{-1, 0, 1, -1}, []int{0, 1, -1, 0})
		turn(&d)
		return d
	}
	return map[string]api.Dfa{
		"the zero one":              {},
		"no class":                  {Next: [][]int{{}}, Rule: []int{0}},
		"no class, no row":          {Rule: []int{0}},
		"no state":                  {Lows: []rune{0}},
		"no state, but a row":       {Lows: []rune{0}, Next: [][]int{{-1}}},
		"no state, a list":          {Lows: []rune{0}, Next: [][]int{}, Rule: []int{}},
		"lows from 1 on":            ok(func(d *api.Dfa) { d.Lows[0] = 1 }),
		"lows from -1 on":           ok(func(d *api.Dfa) { d.Lows[0] = -1 }),
		"lows from the least on":    ok(func(d *api.Dfa) { d.Lows[0] = math.MinInt32 }),
		"lows that stay":            ok(func(d *api.Dfa) { d.Lows[2] = 'a' }),
		"lows that stay at 0":       ok(func(d *api.Dfa) { d.Lows[1] = 0 }),
		"lows that fall":            ok(func(d *api.Dfa) { d.Lows[1] = 'c' }),
		"lows that fall below 0":    ok(func(d *api.Dfa) { d.Lows[2] = -1 }),
		"lows beyond all":           ok(func(d *api.Dfa) { d.Lows[2] = api.MaxRune + 1 }),
		"lows far beyond all":       ok(func(d *api.Dfa) { d.Lows[2] = math.MaxInt32 }),
		"no rows":                   ok(func(d *api.Dfa) { d.Next = nil }),
		"a row too few":             ok(func(d *api.Dfa) { d.Next = d.Next[:1] }),
		"a row too many":            ok(func(d *api.Dfa) { d.Next = append(d.Next, []int{-1, -1, -1}) }),
		"a rule too few":            ok(func(d *api.Dfa) { d.Rule = d.Rule[:1] }),
		"a rule too many":           ok(func(d *api.Dfa) { d.Rule = append(d.Rule, -1) }),
		"a row too short":           ok(func(d *api.Dfa) { d.Next[0] = d.Next[0][:2] }),
		"a last row too short":      ok(func(d *api.Dfa) { d.Next[1] = d.Next[1][:2] }),
		"an empty row":              ok(func(d *api.Dfa) { d.Next[1] = nil }),
		"a row too long":            ok(func(d *api.Dfa) { d.Next[0] = append(d.Next[0], -1) }),
		"a last row too long":       ok(func(d *api.Dfa) { d.Next[1] = append(d.Next[1], -1) }),
		"a class too few":           ok(func(d *api.Dfa) { d.Lows = d.Lows[:2] }),
		"a class too many":          ok(func(d *api.Dfa) { d.Lows = append(d.Lows, 'z') }),
		"a number below -1":         ok(func(d *api.Dfa) { d.Next[1][2] = -2 }),
		"the least number":          ok(func(d *api.Dfa) { d.Next[0][0] = math.MinInt }),
		"a number of no state":      ok(func(d *api.Dfa) { d.Next[0][1] = 2 }),
		"a last number of no state": ok(func(d *api.Dfa) { d.Next[1][2] = 2 }),
		"the greatest number":       ok(func(d *api.Dfa) { d.Next[1][0] = math.MaxInt }),
		"a rule below -1":           ok(func(d *api.Dfa) { d.Rule[1] = -2 }),
		"a first rule below -1":     ok(func(d *api.Dfa) { d.Rule[0] = -2 }),
		"the least rule":            ok(func(d *api.Dfa) { d.Rule[0] = math.MinInt }),
	}
}

func TestWhatMayNotBeIsRefused(t *testing.T) {
	right := auto([]rune{0}, []int{0, 0})
	for name, d := range wrongAutos() {
		if mayBe(d) {
			t.Error(name, "may be")
		}
		if e := dfa.Check(d); e != api.ErrDfa {
			t.Error(name, "is checked:", e)
		}
		for s := -2; s < 4; s++ {
			for _, c := range []rune{-1, 0, 'a', 'b', 'z', api.MaxRune} {
				if to := dfa.Step(d, s, c); to != -1 {
					t.Error(name, "goes from", s, "by", c, "to", to)
				}
			}
		}
		for _, l := range [][]rune{nil, {'a'}, {0, 'b', -1}} {
			if n, e := dfa.Accept(d, l...); n != 0 || e != api.ErrDfa {
				t.Error(name, "accepts", n, e)
			}
			if n, rule, e := dfa.Longest(d, l...); n != 0 || rule != 0 || e != api.ErrDfa {
				t.Error(name, "has a longest", n, rule, e)
			}
		}
		if l, e := dfa.Least(d); !same(l, api.Dfa{}) || e != api.ErrDfa {
			t.Error(name, "has a least", l, e)
		}
		for _, pair := range [][2]api.Dfa{{d, right}, {right, d}, {d, d}} {
			if text, ok, e := dfa.Apart(pair[0], pair[1]); len(text) > 0 || ok || e != api.ErrDfa {
				t.Error(name, "is told apart", text, ok, e)
			}
		}
		for _, rule := range []int{-1, 0, 1} {
			if text, ok, e := dfa.Witness(d, rule); len(text) > 0 || ok || e != api.ErrDfa {
				t.Error(name, "has a witness", text, ok, e)
			}
		}
		if b, e := dfa.Bytes(d); len(b) > 0 || e != api.ErrDfa {
			t.Error(name, "has bytes", b, e)
		}
	}
}

func TestWhatMayBe(t *testing.T) {
	for _, d := range []api.Dfa{
		auto([]rune{0}, []int{-1, -1}),
		auto([]rune{0}, []int{math.MaxInt, 0}),
		auto([]rune{0, 1, 2, api.MaxRune}, []int{0, -1, 0, 1, -1}, []int{-1, 1, 1, 1, 1}),
		auto([]rune{0, 0xD800, 0xDBFF, 0xDFFF, 0xE000}, []int{5, 0, 0, 0, 0, 0}),
		auto([]rune{0}, []int{-1, -1}, []int{7, 0}), // nothing reaches the second one
	} {
		if e := dfa.Check(d); e != api.OK || !mayBe(d) {
			t.Error(d, e)
		}
	}
	chance := rand.New(rand.NewSource(54))
	wrong := 0
	for range 3000 {
		d := someAuto(chance)
		s, c := chance.Intn(len(d.Rule)), chance.Intn(len(d.Lows))
		switch chance.Intn(6) {
		case 0:
			d.Next[s][c] = chance.Intn(12) - 3
		case 1:
			d.Rule[s] = chance.Intn(5) - 3
		case 2:
			d.Lows[c] = rune(chance.Intn(200) - 20)
		case 3:
			d.Next[s] = d.Next[s][:c]
		}
		want := api.ErrDfa
		if mayBe(d) {
			want = api.OK
		} else {
			wrong++
		}
		if e := dfa.Check(d); e != want {
			t.Error(d, e, want)
		}
	}
	if wrong < 300 || wrong > 2700 {
		t.Error("too few of one sort", wrong)
	}
}

func TestStep(t *testing.T) {
	d := auto([]rune{0, 'a', 0xD800, 0xE000, api.MaxRune}, []int{-1, 0, 1, 2, -1, 1}, []int{0, -1, 1, 0, 2, 2}, []int{3, 2, 2, 2, 2, -1})
	for s, row := range map[int]map[rune]int{
		0: {0: 0, '`': 0, 'a': 1, 0xD7FF: 1, 0xD800: 2, 0xDFFF: 2, 0xE000: -1, 0x10FFFE: -1, 0x10FFFF: 1},
		1: {0: -1, 'z': 1, 0xD800: 0, 0xDC00: 0, 0xFFFF: 2, 0x10FFFF: 2},
		2: {0: 2, 0x10FFFE: 2, 0x10FFFF: -1},
	} {
		for c, want := range row {
			if to := dfa.Step(d, s, c); to != want {
				t.Error(s, c, to, want)
			}
		}
		for _, c := range []rune{-1, 0x110000, math.MinInt32, math.MaxInt32} {
			if to := dfa.Step(d, s, c); to != -1 {
				t.Error(s, c, to)
			}
		}
	}
	for _, s := range []int{-1, 3, 4, -2, math.MinInt, math.MaxInt} {
		for _, c := range []rune{-1, 0, 'a', api.MaxRune} {
			if to := dfa.Step(d, s, c); to != -1 {
				t.Error(s, c, to)
			}
		}
	}
}

// someText is a text of which some numbers may be no runes.
func someText(chance *rand.Rand) []rune {
	l := append(someRunes(), someRunes()...)
	l = append(l, 0x7F, 'e', -1, 0x110000)
	text := make([]rune, chance.Intn(8))
	for i := range text {
		text[i] = l[chance.Intn(len(l))]
	}
	return text
}

func TestWaysGoAsTheWords(t *testing.T) {
	chance := rand.New(rand.NewSource(55))
	for range 3000 {
		d, text := someAuto(chance), someText(chance)
		s := chance.Intn(len(d.Rule))
		for _, c := range text {
			if to := dfa.Step(d, s, c); to != stepOf(d, s, c) {
				t.Error(d, s, c, to)
			}
		}
		if n, e := dfa.Accept(d, text...); n != acceptOf(d, text) || e != api.OK {
			t.Error(d, text, n, e)
		}
		size, rule := 0, -1
		for n := range len(text) + 1 {
			if x := acceptOf(d, text[:n]); x >= 0 {
				size, rule = n, x
			}
		}
		if n, x, e := dfa.Longest(d, text...); n != size || x != rule || e != api.OK {
			t.Error(d, text, n, x, e, size, rule)
		}
	}
}

func TestAcceptAndLongest(t *testing.T) {
	d := built(t, parsed(t, `"ab"`, `"a"`, `"abcd"`, `"x"`)...)
	for _, x := range []struct {
		text               string
		accept, size, rule int
	}{
		{"", -1, 0, -1}, {"a", 1, 1, 1}, {"ab", 0, 2, 0}, {"abc", -1, 2, 0}, {"abcd", 2, 4, 2}, {"abcx", -1, 2, 0}, {"abcda", -1, 4, 2},
		{"b", -1, 0, -1}, {"ax", -1, 1, 1}, {"xx", -1, 1, 3}, {"c", -1, 0, -1},
	} {
		if n, e := dfa.Accept(d, []rune(x.text)...); n != x.accept || e != api.OK {
			t.Error(x.text, n, e)
		}
		if n, rule, e := dfa.Longest(d, []rune(x.text)...); n != x.size || rule != x.rule || e != api.OK {
			t.Error(x.text, n, rule, e)
		}
	}
	// the empty beginning counts
	d = built(t, parsed(t, `"ab"`, `"x"*`)...)
	for text, want := range map[string][2]int{"": {0, 1}, "a": {0, 1}, "ab": {2, 0}, "xxa": {2, 1}, "b": {0, 1}} {
		if n, rule, e := dfa.Longest(d, []rune(text)...); n != want[0] || rule != want[1] || e != api.OK {
			t.Error(text, n, rule, e)
		}
	}
	for _, c := range []rune{-1, api.MaxRune + 1} { // no runes: the way ends there
		all := built(t, parse(t, `.*`))
		if n, e := dfa.Accept(all, 'a', c, 'a'); n != -1 || e != api.OK {
			t.Error(n, e)
		}
		if n, rule, e := dfa.Longest(all, 'a', c, 'a'); n != 1 || rule != 0 || e != api.OK {
			t.Error(n, rule, e)
		}
	}
	long := slices.Repeat([]rune{'a'}, 100000)
	if n, rule, e := dfa.Longest(built(t, parse(t, `"aa"*`)), long[1:]...); n != 99998 || rule != 0 || e != api.OK {
		t.Error(n, rule, e)
	}
}
