package lexer_test

import (
	"math"
	"slices"
	"testing"

	"quoin/api"
	"quoin/lexer"
	"quoin/regex"
)

// Y1: which scanners may be, and what is told of those that may not

// checked holds Check's answer against what it should be, and all other calls' errors, too.
func checked(t *testing.T, name string, s api.Scanner, mode, rule int, why api.Errno) {
	t.Helper()
	if m, n, e := lexer.Check(s); m != mode || n != rule || e != why {
		t.Error(name, "is checked:", m, n, e, "and not", mode, rule, why)
	}
	refused(t, name, s, why)
}

// refused holds the error of all calls but Check against what it should be.
func refused(t *testing.T, name string, s api.Scanner, why api.Errno) {
	t.Helper()
	autos, e := lexer.Automata(s)
	if e != why || why != api.OK && len(autos) > 0 {
		t.Error(name, "has automata:", len(autos), e, "and not", why)
	}
	hidden, e := lexer.Hidden(s)
	if e != why || why != api.OK && len(hidden) > 0 {
		t.Error(name, "has hidden rules:", hidden, e, "and not", why)
	}
	x, e := lexer.New(s)
	if e != why || (x == nil) != (why != api.OK) {
		t.Error(name, "has a lexer:", x != nil, e, "and not", why)
	}
	if why == api.OK {
		return
	}
	for _, src := range []string{"a", string(make([]byte, api.MaxSource+1))} { // it is told ahead of the length
		l, f := lexer.All(s, src)
		tells(t, l, f, fault(why, 0))
	}
}

// many are so many rules, each of a rune of its own.
func many(t *testing.T, n int) []api.LexRule {
	t.Helper()
	var l []api.LexRule
	for i := range n {
		r, e := regex.Word(rune('!' + i))
		if e != api.OK {
			t.Fatal(e)
		}
		l = append(l, api.LexRule{Re: r, Kind: 2 + i})
	}
	return l
}

func TestHowManyModesAndRulesMayBe(t *testing.T) {
	checked(t, "no modes", api.Scanner{}, 0, 0, api.ErrModes)
	checked(t, "an empty list of modes", scanner([][]api.LexRule{}...), 0, 0, api.ErrModes)
	checked(t, "one mode without rules", scanner(nil), 0, 0, api.OK)
	checked(t, "MaxModes modes without rules", scanner(make([][]api.LexRule, 16)...), 0, 0, api.OK)
	checked(t, "one mode more", scanner(make([][]api.LexRule, 17)...), 0, 0, api.ErrModes)
	checked(t, "many modes more", scanner(make([][]api.LexRule, 100000)...), 0, 0, api.ErrModes)
	checked(t, "MaxLex rules in one mode", scanner(many(t, 256)), 0, 0, api.OK)
	checked(t, "one rule more in one mode", scanner(many(t, 257)), 0, 0, api.ErrModes)
	sixteen := slices.Repeat([][]api.LexRule{many(t, 16)}, 16)
	checked(t, "MaxLex rules in MaxModes modes", scanner(sixteen...), 0, 0, api.OK)
	sixteen[15] = many(t, 17)
	checked(t, "one rule more in MaxModes modes", scanner(sixteen...), 0, 0, api.ErrModes)
	checked(t, "one rule more in two modes", scanner(many(t, 1), many(t, 256)), 0, 0, api.ErrModes)
	wrong := many(t, 257)
	wrong[0].Kind = 1
	wrong[1].Re = api.Regex{Kind: -1}
	checked(t, "too many rules, some of which are wrong", scanner(wrong), 0, 0, api.ErrModes)
	checked(t, "as many rules, some of which are wrong", scanner(wrong[:256]), 0, 0, api.ErrKind)
	checked(t, "too many modes, with a wrong rule", scanner(append(make([][]api.LexRule, 16), wrong[:1])...), 0, 0, api.ErrModes)
}

func TestKindsOfRules(t *testing.T) {
	for kind, why := range map[int]api.Errno{
		0: api.OK, 2: api.OK, 3: api.OK, 1022: api.OK, 1023: api.OK,
		1: api.ErrKind, -1: api.ErrKind, -2: api.ErrKind, math.MinInt: api.ErrKind, 1024: api.ErrKind, 1025: api.ErrKind, math.MaxInt: api.ErrKind,
	} {
		checked(t, "a kind", scanner([]api.LexRule{rule(t, `"a"`, kind)}), 0, 0, why)
	}
}

func TestModesOfRules(t *testing.T) {
	for _, modes := range []int{1, 2, 3, 16} {
		for push, why := range map[int]api.Errno{
			0: api.OK, 1: api.OK, modes: api.OK, modes + 1: api.ErrMode, modes + 2: api.ErrMode, math.MaxInt: api.ErrMode, -1: api.ErrMode, math.MinInt: api.ErrMode,
		} {
			for _, pop := range []bool{false, true} {
				s := scanner(make([][]api.LexRule, modes)...)
				s.Modes[modes/2] = []api.LexRule{rule(t, `"b"`, 2), turning(t, `"a"`, 2, push, pop)}
				if why == api.OK {
					checked(t, "a mode", s, 0, 0, api.OK)
				} else {
					checked(t, "a mode", s, modes/2, 1, why)
				}
			}
		}
	}
}

func TestExpressionsOfRules(t *testing.T) {
	a := parse(t, `"a"`)
	for _, re := range []api.Regex{
		{Kind: -1}, {Kind: 8}, {Kind: api.ReSet}, {Kind: api.ReCat, Kids: []api.Regex{a}}, {Kind: api.ReStar}, {Kind: api.ReNone, Kids: []api.Regex{a}},
		{Kind: api.ReSet, Set: []api.Range{{Lo: 'b', Hi: 'a'}}}, {Kind: api.ReAlt, Kids: []api.Regex{a, a}}, {Kind: api.ReNot, Kids: []api.Regex{{Kind: api.ReNot, Kids: []api.Regex{a}}}},
		{Kind: api.ReStar, Kids: []api.Regex{{Kind: api.ReEmpty}}}, // it would take the empty row, too
	} {
		checked(t, "what is not right", scanner([]api.LexRule{{Re: re, Kind: 2}}), 0, 0, api.ErrRegex)
		checked(t, "what is not right, and more", scanner([]api.LexRule{{Re: re, Kind: 1, Push: -1}}), 0, 0, api.ErrRegex)
	}
	for _, re := range []string{`""`, `"a"*`, `"a"?`, `"a" | ""`, `.*`, `!"a"`, `![]`, `"a"{0,3}`, `("a" | "b"*) "c"*`} {
		checked(t, re, plain(t, re), 0, 0, api.ErrEmpty)
		checked(t, re+" and more", scanner([]api.LexRule{turning(t, re, -1, 2, true)}), 0, 0, api.ErrEmpty)
	}
	for _, re := range []string{`[]`, `"a"+`, `.`, `!"" & .*`, `[\u{d800}]`, `"a" & "b"`} {
		checked(t, re, plain(t, re), 0, 0, api.OK)
	}
}

func TestOfOneRuleTheFirstErrorIsTold(t *testing.T) {
	order := []struct {
		why   api.Errno
		spoil func(r *api.LexRule)
	}{
		{api.ErrRegex, func(r *api.LexRule) { r.Re = api.Regex{Kind: api.ReStar} }},
		{api.ErrEmpty, func(r *api.LexRule) {
			if r.Re.Kind != api.ReStar {
				r.Re = parse(t, `"a"?`)
			}
		}},
		{api.ErrKind, func(r *api.LexRule) { r.Kind = 1 }},
		{api.ErrMode, func(r *api.LexRule) { r.Push = 3 }},
	}
	for which := range 1 << len(order) {
		r, why := rule(t, `"a"`, 2), api.OK
		for i, wrong := range order {
			if which>>i&1 == 1 {
				wrong.spoil(&r)
				if why == api.OK {
					why = wrong.why
				}
			}
		}
		checked(t, "a rule", scanner([]api.LexRule{r}, nil), 0, 0, why)
		if why != api.OK {
			checked(t, "a rule behind others", scanner(many(t, 3), append(many(t, 2), r)), 1, 2, why)
		}
	}
}

func TestOfRulesTheFirstWrongOneIsTold(t *testing.T) {
	good, regex := rule(t, `"a"`, 2), api.LexRule{Re: api.Regex{Kind: 8}}
	empty, kind, push := rule(t, `"a"*`, 2), rule(t, `"a"`, 1), turning(t, `"a"`, 2, 4, false)
	all := map[api.Errno]api.LexRule{api.ErrRegex: regex, api.ErrEmpty: empty, api.ErrKind: kind, api.ErrMode: push}
	for why, first := range all {
		for _, later := range all {
			checked(t, "of one mode", scanner([]api.LexRule{good, first, later}, nil, nil), 0, 1, why)
			checked(t, "of two modes", scanner([]api.LexRule{good}, []api.LexRule{good, good, first}, []api.LexRule{later}), 1, 2, why)
			checked(t, "of the last mode", scanner(nil, nil, []api.LexRule{first, good, later}), 2, 0, why)
		}
	}
}

// dots are n ranges of one rune, each two above the one ahead.
func dots(n int) api.Regex {
	r := api.Regex{Kind: api.ReSet}
	for i := range n {
		r.Set = append(r.Set, api.Range{Lo: 2 * rune(i), Hi: 2 * rune(i)})
	}
	return r
}

// tooLarge has a derivative of too many parts behind two runes.
func tooLarge(t *testing.T) api.Regex {
	t.Helper()
	word, e := regex.Word(slices.Repeat([]rune{'a'}, 1101)...)
	if e != api.OK {
		t.Fatal(e)
	}
	star, _ := regex.Star(word)
	r, e := regex.Cat(parse(t, `"a"`), star)
	if e != api.OK {
		t.Fatal(e)
	}
	return r
}

// tooDeep has a derivative that lies too deep behind two runes.
func tooDeep(t *testing.T) api.Regex {
	t.Helper()
	deep := parse(t, `"z"`)
	for range 30 {
		star, _ := regex.Star(deep)
		deep, _ = regex.Cat(parse(t, `"z"`), star)
	}
	alt, _ := regex.Alt(deep, parse(t, `"a" "az"*`))
	star, _ := regex.Star(alt)
	r, e := regex.Cat(parse(t, `"a"`), star)
	if e != api.OK {
		t.Fatal(e)
	}
	return r
}

func TestAutomataThatAreTooLarge(t *testing.T) {
	states := rule(t, `.* "a" .{12}`, 2)
	ranges := api.LexRule{Re: dots(1025), Kind: 2}
	size, nest := api.LexRule{Re: tooLarge(t), Kind: 2}, api.LexRule{Re: tooDeep(t), Kind: 2}
	for why, large := range map[api.Errno]api.LexRule{api.ErrStates: states, api.ErrRanges: ranges, api.ErrSize: size, api.ErrNest: nest} {
		s := scanner([]api.LexRule{large})
		if _, _, e := lexer.Check(s); e != api.OK {
			t.Error(e)
		}
		refused(t, "one mode", s, why)
		refused(t, "a last mode", scanner(nil, []api.LexRule{rule(t, `"a"`, 2)}, []api.LexRule{rule(t, `"a"`, 2), large}), why)
		for _, wrong := range []api.LexRule{{Re: api.Regex{Kind: 8}}, rule(t, `"a"*`, 2), rule(t, `"a"`, 1), turning(t, `"a"`, 2, 9, false)} {
			_, _, e := lexer.Check(scanner([]api.LexRule{wrong}))
			checked(t, "behind a wrong rule", scanner([]api.LexRule{wrong, large}), 0, 0, e)
			checked(t, "ahead of a wrong rule", scanner([]api.LexRule{large, wrong}), 0, 1, e)
			checked(t, "in a mode behind a wrong rule's", scanner([]api.LexRule{wrong}, []api.LexRule{large}), 0, 0, e)
			checked(t, "in a mode ahead of a wrong rule's", scanner([]api.LexRule{large}, nil, []api.LexRule{wrong}), 2, 0, e)
		}
	}
	refused(t, "of two modes the first", scanner([]api.LexRule{size}, []api.LexRule{ranges}), api.ErrSize)
	refused(t, "of two modes the first", scanner(nil, []api.LexRule{ranges}, []api.LexRule{size}), api.ErrRanges)
	// each rule alone would not be too large
	refused(t, "rules together", scanner([]api.LexRule{rule(t, `.* "a" .{11}`, 2), rule(t, `"b"`, 2)}), api.ErrStates)
	if _, e := lexer.Automata(scanner([]api.LexRule{rule(t, `.* "a" .{11}`, 2)}, []api.LexRule{rule(t, `"b"`, 2)})); e != api.OK {
		t.Error(e)
	}
}
