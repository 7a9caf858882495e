package regex_test

import (
	"strings"
	"testing"

	"quoin/api"
	"quoin/regex"
)

// R5, R9: texts, and that they are read as the same

// tallForms are right trees of 64 levels whose texts have many brackets.
func tallForms() []api.Regex {
	a := one('a')
	var l []api.Regex
	for _, ways := range [][]func(r api.Regex) api.Regex{
		{not, star},
		{not, func(r api.Regex) api.Regex { return cat(a, r) }},
		{not, func(r api.Regex) api.Regex { return cat(r, a) }},
		{star, func(r api.Regex) api.Regex { return cat(a, r) }},
		{not, func(r api.Regex) api.Regex { return alt(a, r) }},
		{not, func(r api.Regex) api.Regex { return and(a, r) }},
		{not, star, func(r api.Regex) api.Regex { return and(a, r) }},
		{func(r api.Regex) api.Regex { return cat(a, r) }, func(r api.Regex) api.Regex { return alt(a, r) }},
		{func(r api.Regex) api.Regex { return cat(a, r, a) }, func(r api.Regex) api.Regex { return and(a, r) }},
		{func(r api.Regex) api.Regex { return and(a, r) }, func(r api.Regex) api.Regex { return alt(a, r) }},
		{not, func(r api.Regex) api.Regex { return cat(a, r) }, func(r api.Regex) api.Regex { return alt(a, r) }, star, func(r api.Regex) api.Regex { return and(a, r) }},
	} {
		for first := range ways {
			r := star(a)
			for i := first; levelsOf(r) < 64; i++ { // one that can't stand around another is passed over
				if next := ways[i%len(ways)](r); rightForm(next) {
					r = next
				}
			}
			l = append(l, r)
		}
	}
	return l
}

func TestText(t *testing.T) {
	trees := append(rightTrees(3000), someSets()...)
	trees = append(trees, wide(4096), tall(64), fat(4096), set(dots(0, 2048)...), cat(set(dots(100000, 2048)...), set(dots(100000, 2040)...)))
	for _, r := range append(trees, tallForms()...) {
		if !isRight(r) {
			t.Fatal(brief(r))
		}
		s, e := regex.Text(r)
		if e != api.OK || s != textOf(r) {
			t.Error(s[:min(len(s), 100)], e, brief(r))
		}
		back, f := regex.Parse(s)
		if f != (api.Fault{}) || !same(back, r) {
			t.Error(s[:min(len(s), 100)], f)
		}
	}
}

func TestTextByHand(t *testing.T) {
	a, b := one('a'), one('b')
	ab := cat(a, b)
	for _, x := range []struct {
		r api.Regex
		s string
	}{
		{reNone, `[]`}, {reEmpty, `""`}, {reAll, `![]`}, {set(span(0, api.MaxRune)), `[\u{0}-\u{10ffff}]`}, {set(span('\n', '\n'), span('-', '-')), `[\n\-]`},
		{ab, `[a] [b]`}, {alt(reEmpty, a), `"" | [a]`}, {and(a, star(b)), `[a] & [b]*`}, {not(a), `![a]`}, {star(a), `[a]*`},
		{cat(a, alt(reEmpty, a)), `[a] ("" | [a])`}, {cat(and(a, ab), b), `([a] & [a] [b]) [b]`}, {cat(not(a), star(b)), `![a] [b]*`},
		{alt(a, ab, and(a, ab), not(a), star(a)), `[a] | [a] [b] | [a] & [a] [b] | ![a] | [a]*`}, {and(a, ab, alt(reEmpty, a), not(a), star(a)), `[a] & [a] [b] & ("" | [a]) & ![a] & [a]*`},
		{not(ab), `!([a] [b])`}, {not(alt(reEmpty, a)), `!("" | [a])`}, {not(and(a, ab)), `!([a] & [a] [b])`}, {not(star(a)), `![a]*`}, {not(reEmpty), `!""`},
		{star(ab), `([a] [b])*`}, {star(alt(reEmpty, a)), `("" | [a])*`}, {star(and(a, ab)), `([a] & [a] [b])*`}, {star(not(a)), `(![a])*`}, {star(reAll), `(![])*`},
	} {
		if s, e := regex.Text(x.r); s != x.s || e != api.OK {
			t.Error(s, e, x.s)
		}
		if r, f := regex.Parse(x.s); f != (api.Fault{}) || !same(r, x.r) {
			t.Error(x.s, f)
		}
	}
	if s, _ := regex.Text(cat(one(' '), one('"'))); s != `[\u{20}] [\"]` || strings.Contains(s, `" "`) {
		t.Error(s)
	}
}

// R9: one form

func TestOneForm(t *testing.T) {
	trees := rightTrees(300)
	for i, r := range trees {
		n, e := regex.Normal(r)
		want(t, "Normal", n, e, r)
		x, y := trees[(i*7+3)%len(trees)], trees[(i*5+1)%len(trees)]
		for _, way := range []func(...api.Regex) (api.Regex, api.Errno){regex.Alt, regex.And} {
			meant, e := way(r, x, y)
			if e != api.OK || !regex.Right(meant) {
				t.Error(brief(meant), e)
			}
			for _, l := range [][]api.Regex{{r, y, x}, {x, r, y}, {x, y, r}, {y, r, x}, {y, x, r}, {r, r, x, y, x}, {y, y, x, x, r, r, y}} {
				same, e := way(l...)
				want(t, "of any order", same, e, meant)
			}
			two, _ := way(r, x)
			three, e := way(two, y, two)
			want(t, "one by one", three, e, meant)
		}
	}
}
