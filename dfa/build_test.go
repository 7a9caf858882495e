package dfa_test

import (
	"math/rand"
	"slices"
	"testing"

	"quoin/api"
	"quoin/dfa"
	"quoin/regex"
)

// P5.1 and P5.5: automata of expressions

// refused tells whether Build answers an error, and nothing beside it.
func refused(t *testing.T, name string, want api.Errno, l ...api.Regex) {
	t.Helper()
	if d, e := dfa.Build(l...); e != want || !same(d, api.Dfa{}) {
		t.Error(name, "is answered by", e, "and not", want, len(d.Rule))
	}
}

// asMeant holds Build against the words.
func asMeant(t *testing.T, name string, l ...api.Regex) {
	t.Helper()
	want, why := buildOf(l)
	d, e := dfa.Build(l...)
	if e != why || !same(d, want) {
		t.Error(name, "is", e, len(d.Rule), len(d.Lows), "and not", why, len(want.Rule), len(want.Lows))
	}
}

func TestBuildIsTheAutomatonOfTheRow(t *testing.T) {
	chance := rand.New(rand.NewSource(51))
	for range 400 {
		var l []api.Regex
		for range 1 + chance.Intn(3) {
			l = append(l, someRegex(chance, 5))
		}
		asMeant(t, "a row", l...)
	}
}

func TestBuildOfPlainRows(t *testing.T) {
	for _, l := range [][]string{
		{`[]`}, {`[]`, `[]`}, {`""`}, {`[]`, `""`}, {`.`}, {`.*`}, {`!""`}, {`!(.*)`}, {`![]`}, {`[a]`, `[a]`}, {`[a]`, `[b]`, `[a]`},
		{`"if"`, `"else"`, `"elif"`, `[a-z]+`, `[0-9]+`, `[ ]`}, {`[a-z]+`, `"if"`}, {`.* "a" .{3}`}, {`[ab]* "a" [ab]{3}`},
		{`"/*" !(.* "*/" .*) "*/"`, `"/"`}, {`"a"{3,7}`, `"a"{5,9}`}, {`[a-c]* & !(.* "aa" .*)`, `.*`}, {`.`, `[a-z]`}, {`[a]`, `.*`, `[b]`},
	} {
		asMeant(t, l[0], parsed(t, l...)...)
	}
}

func TestBuildAcceptsWhatTheExpressionsMean(t *testing.T) {
	chance := rand.New(rand.NewSource(52))
	sample := []rune{0, 'a', 'b', 'c', 0xD800, 0x10FFFF}
	var texts [][]rune
	for from := 0; from <= len(texts) && len(texts) < 1500; from++ { // each longer by one rune than an earlier one
		text := []rune{}
		if from > 0 {
			text = texts[from-1]
			for _, c := range sample {
				texts = append(texts, append(slices.Clone(text), c))
			}
			continue
		}
		texts = append(texts, text)
	}
	for range 60 {
		l := []api.Regex{someRegex(chance, 5), someRegex(chance, 5), someRegex(chance, 8)}
		d := built(t, l...)
		for _, text := range texts {
			want := slices.IndexFunc(l, func(r api.Regex) bool { return regex.Match(r, text...) })
			if n, e := dfa.Accept(d, text...); n != want || e != api.OK {
				t.Fatal(l, text, n, e, want)
			}
		}
	}
}

func TestBuildRefusesWhatIsNotRight(t *testing.T) {
	a := parse(t, `[a]`)
	refused(t, "nothing", api.ErrArg)
	refused(t, "an empty list", api.ErrArg, []api.Regex{}...)
	huge := api.Regex{Kind: api.ReSet, Set: dots(0, 1100)}
	for _, wrong := range []api.Regex{
		{Kind: -1}, {Kind: 8}, {Kind: api.ReSet}, {Kind: api.ReCat, Kids: []api.Regex{a}}, {Kind: api.ReStar}, {Kind: api.ReNone, Kids: []api.Regex{a}},
		{Kind: api.ReNot, Kids: []api.Regex{{Kind: api.ReNot, Kids: []api.Regex{a}}}}, {Kind: api.ReAlt, Kids: []api.Regex{a, a}},
	} {
		refused(t, "it alone", api.ErrArg, wrong)
		refused(t, "it first", api.ErrArg, wrong, a)
		refused(t, "it last", api.ErrArg, a, a, wrong)
		refused(t, "it between", api.ErrArg, a, wrong, a)
		refused(t, "it behind what has too many cuts", api.ErrArg, huge, wrong)
		refused(t, "it behind what has too large derivatives", api.ErrArg, tooLarge(t, 'a', 1), wrong)
	}
}

// dots are n ranges of one rune, each two above the one ahead.
func dots(from rune, n int) []api.Range {
	l := make([]api.Range, n)
	for i := range l {
		l[i] = api.Range{Lo: from + 2*rune(i), Hi: from + 2*rune(i)}
	}
	return l
}

// set is a ReSet.
func set(l ...api.Range) api.Regex { return api.Regex{Kind: api.ReSet, Set: l} }

// behind is a word of so many of a rune, and an expression.
func behind(t *testing.T, c rune, many int, r api.Regex) api.Regex {
	t.Helper()
	l := slices.Repeat([]api.Regex{set(api.Range{Lo: c, Hi: c})}, many)
	x, e := regex.Cat(append(l, r)...)
	if e != api.OK {
		t.Fatal(e)
	}
	return x
}

// failsAt is behind how many runes a derivative can't be made, and why not.
func failsAt(r api.Regex, c rune) (many int, why api.Errno) {
	for why == api.OK {
		r, why = regex.Derive(r, c)
		many++
	}
	return many, why
}

// tooLarge has a derivative of too many parts behind so many of a rune.
func tooLarge(t *testing.T, c rune, many int) api.Regex {
	t.Helper()
	x, e := regex.Star(behind(t, c, 1100, set(api.Range{Lo: c, Hi: c})))
	if e != api.OK {
		t.Fatal(e)
	}
	x = behind(t, c, many-1, x)
	if n, why := failsAt(x, c); n != many || why != api.ErrSize {
		t.Fatal(n, why)
	}
	return x
}

// tooDeep has a derivative that lies too deep behind so many of a rune, two or more: by the second one a ReCat comes to lie in a ReAlt.
func tooDeep(t *testing.T, c rune, many int) api.Regex {
	t.Helper()
	made := func(x api.Regex, e api.Errno) api.Regex {
		t.Helper()
		if e != api.OK {
			t.Fatal(e)
		}
		return x
	}
	one, z := set(api.Range{Lo: c, Hi: c}), set(api.Range{Lo: 'z', Hi: 'z'})
	deep := z
	for range 30 {
		deep = made(regex.Cat(z, made(regex.Star(deep))))
	}
	again := made(regex.Star(made(regex.Cat(one, z))))
	x := made(regex.Star(made(regex.Alt(deep, made(regex.Cat(one, again))))))
	x = behind(t, c, many-2, x)
	if n, why := failsAt(x, c); n != many || why != api.ErrNest {
		t.Fatal(n, why)
	}
	return x
}

func TestWhatIsToldFirstWhileRowsAreMet(t *testing.T) {
	ends := func(want api.Errno, l ...api.Regex) { // in the order that is told; the words say so, too
		t.Helper()
		refused(t, "a row", want, l...)
		asMeant(t, "a row", l...)
	}
	for many := 2; many < 6; many++ {
		ends(api.ErrSize, tooLarge(t, 'a', many))
		ends(api.ErrNest, tooDeep(t, 'a', many))
		ends(api.ErrSize, parse(t, `.*`), tooLarge(t, 'a', many), parse(t, `[x]`))
		// in one row, by one rune: the first expression's
		ends(api.ErrSize, tooLarge(t, 'a', many), tooDeep(t, 'a', many))
		ends(api.ErrNest, tooDeep(t, 'a', many), tooLarge(t, 'a', many))
		// in one row, by two runes: the lesser rune's
		ends(api.ErrSize, tooLarge(t, 'a', 2), tooDeep(t, 'b', 2))
		ends(api.ErrSize, tooDeep(t, 'b', many), tooLarge(t, 'a', many))
		ends(api.ErrNest, tooLarge(t, 'b', many), tooDeep(t, 'a', many))
		// in two rows: the one's that is met first
		ends(api.ErrSize, tooDeep(t, 'a', many+1), tooLarge(t, 'b', many))
		ends(api.ErrNest, tooLarge(t, 'a', many+1), tooDeep(t, 'b', many))
	}
	ends(api.ErrSize, tooLarge(t, 'a', 1), tooDeep(t, 'a', 2))
	ends(api.ErrSize, tooDeep(t, 'a', 2), tooLarge(t, 'b', 1))
}

func TestTooManyCuts(t *testing.T) {
	// 1024 ranges from 0 on part the runes at 2048 places
	full := set(dots(0, 1024)...)
	d := built(t, full)
	if len(d.Lows) != 2048 || len(d.Rule) != 2 {
		t.Error(len(d.Lows), len(d.Rule))
	}
	asMeant(t, "as many cuts as may be", full)
	asMeant(t, "as many cuts as may be, at places that others have", full, set(dots(1000, 500)...), full)
	top := set(append(dots(0, 1023), api.Range{Lo: 5000, Hi: api.MaxRune})...)
	if d := built(t, set(api.Range{Lo: 5000, Hi: 5000}), top); len(d.Lows) != 2048 || d.Lows[2047] != 5001 {
		t.Error(len(d.Lows))
	}
	refused(t, "one more", api.ErrRanges, set(dots(1, 1024)...))
	refused(t, "one more of another", api.ErrRanges, full, set(api.Range{Lo: 3000, Hi: 3000}))
	refused(t, "one more of another ahead", api.ErrRanges, set(api.Range{Lo: 3000, Hi: api.MaxRune}), full)
	refused(t, "many more", api.ErrRanges, set(dots(0, 2048)...))
	refused(t, "two halves", api.ErrRanges, set(dots(0, 600)...), set(dots(3000, 600)...))
	refused(t, "two halves behind a word", api.ErrRanges, behind(t, 'a', 3, set(dots(0, 600)...)), behind(t, 'a', 3, set(dots(3000, 600)...)))
	refused(t, "what is told ahead of all derivatives", api.ErrRanges, tooLarge(t, 'a', 1), set(dots(0, 1025)...))
	refused(t, "what is told ahead of all derivatives", api.ErrRanges, tooDeep(t, 'a', 2), set(dots(0, 600)...), set(dots(3000, 600)...))
	refused(t, "what is told ahead of too many rows", api.ErrRanges, parse(t, `.* "a" .{12}`), set(dots(0, 1025)...))
}

func TestTooManyRows(t *testing.T) {
	most := parse(t, `.* "a" .{11}`)
	if d := built(t, most); len(d.Rule) != 4096 || len(d.Lows) != 3 {
		t.Error(len(d.Rule), len(d.Lows))
	}
	refused(t, "twice as many", api.ErrStates, parse(t, `.* "a" .{12}`))
	refused(t, "one more, that leads nowhere", api.ErrStates, parse(t, `[ab]* "a" [ab]{11}`))
	refused(t, "one more, of another", api.ErrStates, most, parse(t, `""`))
	// behind 11 runes 4095 rows are met, and behind 12 the last one
	short := parse(t, `.* "a" .{10} & .{11}`)
	if d := built(t, short, parse(t, `.{11}`)); len(d.Lows) != 3 {
		t.Error(len(d.Lows))
	}
	refused(t, "one more, that comes last and leads nowhere", api.ErrStates, short, parse(t, `.{12}`))
	refused(t, "rows that accept alike", api.ErrStates, parse(t, `.* "a" .{12} | .*`))
	if d := built(t, parse(t, `.*`), parse(t, `.* "a" .{11}`)); len(d.Rule) != 1 || len(d.Lows) != 1 {
		t.Error("rows that accept alike", len(d.Rule), len(d.Lows))
	}
}

func TestTooManyRowsByTheWords(t *testing.T) {
	many := parse(t, `.* "a" .{12}`)
	told := map[api.Errno]int{}
	for _, l := range [][]api.Regex{
		{many, tooLarge(t, 'a', 9)}, {tooDeep(t, 'b', 10), many}, {many, tooLarge(t, 'a', 13)}, {tooDeep(t, 'b', 14), many}, {parse(t, `[ab]* "a" [ab]{11}`)},
	} {
		_, why := metBy(l)
		refused(t, "many rows", why, l...)
		told[why]++
	}
	if told[api.ErrSize] == 0 || told[api.ErrNest] == 0 || told[api.ErrStates] < 2 {
		t.Error("too few of one sort", told)
	}
}

func TestBuildIsLeast(t *testing.T) {
	chance := rand.New(rand.NewSource(53))
	for range 300 {
		d := built(t, someRegex(chance, 6), someRegex(chance, 6))
		if l, e := dfa.Least(d); e != api.OK || !same(l, d) {
			t.Error(l, e, d)
		}
		if e := dfa.Check(d); e != api.OK {
			t.Error(e)
		}
	}
}
