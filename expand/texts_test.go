package expand_test

import (
	"slices"
	"strconv"
	"strings"
	"testing"

	"quoin/api"
	"quoin/expand"
	"quoin/print"
	"quoin/spec"
)

// Modules as texts, in which marks tell the places of what is wrong: @ and a letter, which are no part of the text.

// kindsAhead stands ahead of all texts; A and B have no level.
const kindsAhead = `module M; token A = "a"; token B = "b"; token P = "p"; token Q = "q"; left P; right Q X; `

// parsed is the module of a text, and the places of its marks.
func parsed(t testing.TB, text string) (api.Spec, map[string]int) {
	t.Helper()
	text = kindsAhead + text
	places := map[string]int{"0": 0}
	for at := strings.IndexByte(text, '@'); at >= 0; at = strings.IndexByte(text, '@') {
		places[text[at+1:at+2]] = at
		text = text[:at] + text[at+2:]
	}
	s, f := spec.Parse(text)
	if f != (api.Fault{}) {
		t.Fatalf("%s: %v", short(text), f)
	}
	return s, places
}

// errnos are the errors of the chapter.
var errnos = map[string]api.Errno{
	"ErrArg": api.ErrArg, "ErrNone": api.ErrNone, "ErrThere": api.ErrThere, "ErrSort": api.ErrSort, "ErrEndless": api.ErrEndless,
	"ErrUnknown": api.ErrUnknown, "ErrInline": api.ErrInline, "ErrProds": api.ErrProds, "ErrAction": api.ErrAction,
}

// diagsOf are the diagnostics of lines of an error and a mark.
func diagsOf(t testing.TB, places map[string]int, l []string) []api.Diag {
	t.Helper()
	var diags []api.Diag
	for _, x := range l {
		why, mark, _ := strings.Cut(x, " ")
		at, is := places[mark]
		if !is || errnos[why] == api.OK {
			t.Fatal("the test is wrong:", x)
		}
		diags = append(diags, api.Diag{Module: "M", Why: errnos[why], At: at})
	}
	return diags
}

// isWrong holds what Check tells of a text, from s, against lines of an error and a mark.
func isWrong(t testing.TB, text string, want ...string) {
	t.Helper()
	s, places := parsed(t, text)
	diags := diagsOf(t, places, want)
	if got := expand.Check(s, "s"); !slices.Equal(got, diags) {
		t.Errorf("%s: %v, want %v", short(text), got, diags)
	}
	if g, types, got := expand.Grammar(s, "s"); len(diags) > 0 && (!slices.Equal(got, diags) || told(g) != told(api.Plain{}) || types != nil) {
		t.Errorf("%s: %v, want %v", short(text), got, diags)
	}
	likeWords(t, s, "s")
}

// stops holds that nothing is wrong with a text, but its grammar can't be told.
func stops(t testing.TB, text string, want string) {
	t.Helper()
	s, places := parsed(t, text)
	diags := diagsOf(t, places, []string{want})
	if got := expand.Check(s, "s"); len(got) > 0 {
		t.Errorf("%s: %v", short(text), got)
	}
	if g, types, got := expand.Grammar(s, "s"); !slices.Equal(got, diags) || told(g) != told(api.Plain{}) || types != nil {
		t.Errorf("%s: %v, want %v", short(text), got, diags)
	}
	likeWords(t, s, "s")
}

// isGrammar holds the productions of a text's grammar, from s, against lines.
func isGrammar(t testing.TB, text string, want ...string) api.Plain {
	t.Helper()
	s, _ := parsed(t, text)
	g, _, diags := expand.Grammar(s, "s")
	if got := lines(g); !slices.Equal(got, want) || len(diags) > 0 {
		t.Errorf("%s: %v\n%s\nwant\n%s", short(text), diags, strings.Join(got, "\n"), strings.Join(want, "\n"))
	}
	likeWords(t, s, "s")
	return g
}

// grows holds that a text, from s, has a grammar, and tells it.
func grows(t testing.TB, text string) api.Plain {
	t.Helper()
	s, _ := parsed(t, text)
	g, _, diags := likeWords(t, s, "s")
	if len(diags) > 0 {
		t.Errorf("%s: %v", short(text), diags)
	}
	return g
}

// lines are a grammar's productions: a rule, its symbols, its action, and its level, if it has one.
func lines(g api.Plain) []string {
	var l []string
	for _, p := range g.Prods {
		line := g.Rules[p.Left] + " ="
		for _, x := range p.Right {
			line += " " + symbol(g, x)
		}
		act, e := print.Act(p.Act, len(p.Right))
		if e != api.OK {
			act = told(p.Act)
		}
		line += " => " + act
		if p.Level != 0 {
			line += " prec " + strconv.Itoa(p.Level)
		}
		l = append(l, line)
	}
	return l
}

// symbol is a symbol's name.
func symbol(g api.Plain, x int) string {
	if x < len(g.Kinds) {
		return g.Kinds[x]
	}
	return g.Rules[x-len(g.Kinds)]
}

// textOf is a module as a text that a message can bear.
func textOf(s api.Spec) string {
	text, e := print.Spec(s)
	if e != api.OK {
		text = told(s)
	}
	return short(text)
}

// short is a text that a message can bear.
func short(s string) string {
	if len(s) > 6000 {
		return s[:3000] + " .. " + s[len(s)-2000:]
	}
	return s
}

// times is a text so many times, one behind the other, with blanks between.
func times(many int, s string) string {
	return strings.TrimSuffix(strings.Repeat(s+" ", many), " ")
}
