package dfa_test

import (
	"math"
	"math/rand"
	"slices"
	"testing"

	"quoin/api"
	"quoin/dfa"
)

// P5.3 and P5.6: the least automaton, texts that tell apart, witnesses

func least(t *testing.T, d api.Dfa) api.Dfa {
	t.Helper()
	l, e := dfa.Least(d)
	if e != api.OK {
		t.Fatal(e)
	}
	return l
}

func TestLeastByHand(t *testing.T) {
	for name, x := range map[string][2]api.Dfa{
		"nothing is accepted": {
			auto([]rune{0, 'a'}, []int{-1, 1, 0}, []int{-1, 1, -1}),
			auto([]rune{0}, []int{-1, -1})},
		"nothing that is reached is accepted": {
			auto([]rune{0, 'a'}, []int{-1, 0, 0}, []int{0, 1, 0}),
			auto([]rune{0}, []int{-1, -1})},
		"a state from which nothing is accepted": {
			auto([]rune{0, 'a'}, []int{-1, 1, 2}, []int{-1, 1, 1}, []int{0, 1, -1}),
			auto([]rune{0, 'a'}, []int{-1, -1, 1}, []int{0, -1, -1})},
		"all is accepted": {
			auto([]rune{0, 'a', 'b'}, []int{4, 1, 0, 1}, []int{4, 0, 1, 0}),
			auto([]rune{0}, []int{4, 0})},
		"states that accept by different rules": {
			auto([]rune{0, 'a'}, []int{0, 1, -1}, []int{1, 1, -1}),
			auto([]rune{0, 'a'}, []int{0, 1, -1}, []int{1, 1, -1})},
		"states that nothing reaches": {
			auto([]rune{0, 'a'}, []int{-1, 3, -1}, []int{5, 0, 0}, []int{6, 1, 2}, []int{0, -1, -1}),
			auto([]rune{0, 'a'}, []int{-1, 1, -1}, []int{0, -1, -1})},
		"states in another order": {
			auto([]rune{0, 'a', 'b'}, []int{-1, 2, -1, 1}, []int{0, -1, 2, -1}, []int{1, 1, -1, -1}),
			auto([]rune{0, 'a', 'b'}, []int{-1, 1, -1, 2}, []int{1, 2, -1, -1}, []int{0, -1, 1, -1})},
		"classes that fall together, side by side": {
			auto([]rune{0, 'a', 'b', 'c', 'd'}, []int{-1, 1, 2, 1, -1, -1}, []int{0, -1, -1, -1, -1, -1}, []int{0, -1, -1, -1, -1, -1}),
			auto([]rune{0, 'c'}, []int{-1, 1, -1}, []int{0, -1, -1})},
		"classes that are alike, but not side by side": {
			auto([]rune{0, 'a', 'b'}, []int{-1, -1, 1, -1}, []int{0, -1, -1, -1}),
			auto([]rune{0, 'a', 'b'}, []int{-1, -1, 1, -1}, []int{0, -1, -1, -1})},
		"a ring": {
			auto([]rune{0}, []int{0, 1}, []int{-1, 2}, []int{0, 3}, []int{-1, 0}),
			auto([]rune{0}, []int{0, 1}, []int{-1, 0})},
	} {
		if l := least(t, x[0]); !same(l, x[1]) || !same(leastOf(x[0]), x[1]) {
			t.Error(name, l)
		}
	}
}

func TestLeastGoesAsTheWords(t *testing.T) {
	chance := rand.New(rand.NewSource(56))
	sizes := map[int]int{}
	for range 4000 {
		d := someAuto(chance)
		l := least(t, d)
		if !same(l, leastOf(d)) {
			t.Fatal(d, l, leastOf(d))
		}
		if again := least(t, l); !same(again, l) {
			t.Fatal("not the least yet", d, l, again)
		}
		if text, ok := apartOf(d, l); ok {
			t.Fatal("not the same any more", d, l, text)
		}
		sizes[len(l.Rule)]++
	}
	for n := 1; n < 7; n++ {
		if sizes[n] < 50 {
			t.Error("too few of one size", sizes)
		}
	}
}

// shuffled is an automaton with its states, but the first, in another order, and some of them, and some classes, twice.
func shuffled(chance *rand.Rand, d api.Dfa) api.Dfa {
	d = copied(d)
	for range 3 { // a class is cut
		c := chance.Intn(len(d.Lows))
		low := d.Lows[c] + 1
		if c+1 < len(d.Lows) && low < d.Lows[c+1] || c+1 == len(d.Lows) && low <= api.MaxRune {
			d.Lows = slices.Insert(d.Lows, c+1, low)
			for s := range d.Next {
				d.Next[s] = slices.Insert(d.Next[s], c+1, d.Next[s][c])
			}
		}
	}
	for range 3 { // a state is there twice, and each step to one of the two goes to either
		s := chance.Intn(len(d.Rule))
		d.Rule = append(d.Rule, d.Rule[s])
		d.Next = append(d.Next, slices.Clone(d.Next[s]))
		for _, row := range d.Next {
			for c := range row {
				if row[c] == s && chance.Intn(2) == 0 {
					row[c] = len(d.Rule) - 1
				}
			}
		}
	}
	order := append([]int{0}, chance.Perm(len(d.Rule)-1)...)
	for i := range order[1:] {
		order[i+1]++
	}
	out := api.Dfa{Lows: d.Lows}
	for _, s := range order {
		var row []int
		for _, to := range d.Next[s] {
			row = append(row, slices.Index(order, to))
		}
		out.Next = append(out.Next, row)
		out.Rule = append(out.Rule, d.Rule[s])
	}
	return out
}

func TestTwoHaveOneLeastJustIfTheyAcceptAlike(t *testing.T) {
	chance := rand.New(rand.NewSource(57))
	alike := 0
	for range 3000 {
		a := someAuto(chance)
		b := someAuto(chance)
		switch chance.Intn(3) {
		case 0:
			b = shuffled(chance, a)
		case 1: // a little is turned
			b = copied(a)
			b.Next[chance.Intn(len(b.Next))][chance.Intn(len(b.Lows))] = chance.Intn(len(b.Next)+1) - 1
		}
		want, apart := apartOf(a, b)
		text, ok, e := dfa.Apart(a, b)
		if !slices.Equal(text, want) || ok != apart || e != api.OK {
			t.Fatal(a, b, text, ok, e, want, apart)
		}
		if same(least(t, a), least(t, b)) == ok {
			t.Fatal("the least ones say otherwise", a, b, ok)
		}
		if !ok {
			alike++
		}
	}
	if alike < 300 || alike > 2700 {
		t.Error("too few of one sort", alike)
	}
}

func TestApartByHand(t *testing.T) {
	a := auto([]rune{0, 'a'}, []int{-1, 1, 0}, []int{3, -1, -1})
	for name, x := range map[string]struct {
		a, b api.Dfa
		text []rune
		ok   bool
	}{
		"the same":                            {a, a, nil, false},
		"rules alone":                         {a, auto([]rune{0, 'a'}, []int{-1, 1, 0}, []int{4, -1, -1}), []rune{0}, true},
		"the first state alone":               {a, auto([]rune{0, 'a'}, []int{3, 1, 0}, []int{3, -1, -1}), nil, true},
		"the first state's rule alone":        {auto([]rune{0}, []int{0, 0}), auto([]rune{0}, []int{1, 0}), nil, true},
		"which state is the first":            {auto([]rune{0}, []int{0, 1}, []int{-1, 0}), auto([]rune{0}, []int{-1, 1}, []int{0, 0}), nil, true},
		"one that leads nowhere, one nothing": {auto([]rune{0}, []int{-1, -1}), auto([]rune{0, 'a'}, []int{-1, 1, 0}, []int{-1, 0, 1}), nil, false},
		"one that ends":                       {auto([]rune{0}, []int{0, 0}), auto([]rune{0, 'c'}, []int{0, 0, -1}), []rune{'c'}, true},
		"the last rune alone":                 {auto([]rune{0}, []int{0, 0}), auto([]rune{0, api.MaxRune}, []int{0, 0, -1}), []rune{api.MaxRune}, true},
		"D800 alone":                          {auto([]rune{0, 0xD800, 0xD801}, []int{0, 0, -1, 0}), auto([]rune{0}, []int{0, 0}), []rune{0xD800}, true},
		"the shorter text, not the lesser":    {built(t, parsed(t, `"aaa" | "z"`)...), built(t, parse(t, `[]`)), []rune{'z'}, true},
		"the lesser of two that are as long":  {built(t, parsed(t, `"zb" | "ay"`)...), built(t, parse(t, `[]`)), []rune{'a', 'y'}, true},
		"a pair that is met again":            {built(t, parsed(t, `"ab"* "c" | "d"`)...), built(t, parsed(t, `"ab"* "c"`)...), []rune{'d'}, true},
	} {
		for i := range 2 {
			if text, ok, e := dfa.Apart(x.a, x.b); !slices.Equal(text, x.text) || ok != x.ok || e != api.OK {
				t.Error(name, i, text, ok, e)
			}
			x.a, x.b = x.b, x.a
		}
	}
}

// ring is an automaton that accepts every so many runes a text of that length.
func ring(n, rule int) api.Dfa {
	d := api.Dfa{Lows: []rune{0}}
	for s := range n {
		d.Next = append(d.Next, []int{(s + 1) % n})
		d.Rule = append(d.Rule, -1)
	}
	d.Rule[0] = rule
	return d
}

func TestLargeAutomata(t *testing.T) {
	// rings of many states, which part late
	a, b := ring(30000, 0), ring(30001, 0)
	if text, ok, e := dfa.Apart(a, b); len(text) != 30000 || !ok || e != api.OK {
		t.Error(len(text), ok, e)
	}
	if text, ok, e := dfa.Apart(ring(3*5*7*11, 0), ring(3*5*7*11*13, 0)); len(text) != 3*5*7*11 || !ok || e != api.OK {
		t.Error(len(text), ok, e)
	}
	if l := least(t, a); !same(l, a) {
		t.Error(len(l.Rule))
	}
	c := ring(30000, 0)
	c.Rule[15000] = 0
	if l := least(t, c); !same(l, ring(15000, 0)) {
		t.Error(len(l.Rule))
	}
	if _, ok, e := dfa.Apart(c, ring(15000, 0)); ok || e != api.OK {
		t.Error(ok, e)
	}
	// a chain of many states: more than Build may make
	d := api.Dfa{Lows: []rune{0, 'a', 'b'}}
	for s := range 50000 {
		d.Next = append(d.Next, []int{-1, s + 1, -1})
		d.Rule = append(d.Rule, -1)
	}
	d.Next = append(d.Next, []int{-1, -1, -1})
	d.Rule = append(d.Rule, 7)
	if l := least(t, d); !same(l, d) {
		t.Error(len(l.Rule))
	}
	if text, ok, e := dfa.Witness(d, 7); len(text) != 50000 || !ok || e != api.OK || text[0] != 'a' || text[49999] != 'a' {
		t.Error(len(text), ok, e)
	}
	// many classes: more than Build may make
	d = auto([]rune{0}, []int{-1, -1}, []int{0, -1}, []int{1, -1})
	for c := range 10000 {
		d.Lows = append(d.Lows, rune(c+1))
		d.Next[0] = append(d.Next[0], 1+c%2)
		d.Next[1] = append(d.Next[1], -1)
		d.Next[2] = append(d.Next[2], -1)
	}
	if l := least(t, d); !same(l, d) {
		t.Error(len(l.Rule), len(l.Lows))
	}
}

func TestWitness(t *testing.T) {
	chance := rand.New(rand.NewSource(58))
	found := 0
	for range 3000 {
		d := someAuto(chance)
		for rule := -2; rule < 4; rule++ {
			want, there := witnessOf(d, rule)
			text, ok, e := dfa.Witness(d, rule)
			if !slices.Equal(text, want) || ok != there || e != api.OK {
				t.Fatal(d, rule, text, ok, e, want, there)
			}
			if ok && len(text) > 1 {
				found++
			}
		}
	}
	if found < 300 {
		t.Error("too few", found)
	}
}

func TestWitnessByHand(t *testing.T) {
	d := built(t, parsed(t, `"a"`, `"a" | "b"`, `"b"`, `.* "q"`)...) // the third one is shadowed
	for rule, want := range map[int]string{0: "a", 1: "b", 3: "q"} {
		if text, ok, e := dfa.Witness(d, rule); string(text) != want || !ok || e != api.OK {
			t.Error(rule, text, ok, e)
		}
	}
	for _, rule := range []int{-1, -2, 2, 4, math.MinInt, math.MaxInt} {
		if text, ok, e := dfa.Witness(d, rule); len(text) > 0 || ok || e != api.OK {
			t.Error(rule, text, ok, e)
		}
	}
	if text, ok, e := dfa.Witness(built(t, parse(t, `"a"*`)), 0); len(text) != 0 || !ok || e != api.OK {
		t.Error("the empty text", text, ok, e)
	}
	if text, ok, _ := dfa.Witness(auto([]rune{0, 'a'}, []int{-1, -1, 1}, []int{math.MaxInt, 0, 0}), math.MaxInt); string(text) != "a" || !ok {
		t.Error(text, ok)
	}
	if text, ok, _ := dfa.Witness(auto([]rune{0}, []int{-1, 0}, []int{4, 0}), 4); len(text) > 0 || ok {
		t.Error("nothing reaches it", text, ok)
	}
	if text, ok, _ := dfa.Witness(auto([]rune{0, 0xD800, 0xE000}, []int{-1, -1, 1, -1}, []int{0, -1, -1, -1}), 0); !slices.Equal(text, []rune{0xD800}) || !ok {
		t.Error(text, ok)
	}
}
