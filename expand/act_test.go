package expand_test

import (
	"testing"

	"quoin/api"
	"quoin/expand"
)

// P11.3: Act, by hand and at random.

func pick(at int) api.Act { return api.Act{Kind: api.ActPick, At: at} }

func text(s string) api.Act { return api.Act{Kind: api.ActText, Name: s} }

func node(name string, kids ...api.Act) api.Act {
	return api.Act{Kind: api.ActNode, Name: name, Kids: kids}
}

var none = api.Act{}

// isAct holds what Act answers against an action, or an error.
func isAct(t testing.TB, a api.Act, kids []api.Act, want api.Act, wantE api.Errno) {
	t.Helper()
	if got, e := expand.Act(a, kids...); told(got) != told(want) || e != wantE {
		t.Errorf("%s of %s: %s %v, want %s %v", short(told(a)), short(told(kids)), short(told(got)), e, short(told(want)), wantE)
	}
	likeAct(t, a, kids)
}

func likeAct(t testing.TB, a api.Act, kids []api.Act) api.Errno {
	t.Helper()
	want, wantE := wordAct(a, kids)
	if got, e := expand.Act(a, kids...); told(got) != told(want) || e != wantE {
		t.Fatalf("%s of %s: %s %v, want %s %v", short(told(a)), short(told(kids)), short(told(got)), e, short(told(want)), wantE)
	}
	return wantE
}

func TestAct(t *testing.T) {
	kids := []api.Act{node("K", pick(1), pick(7)), text("t"), none, pick(3)}
	for _, c := range []struct{ a, want api.Act }{
		{none, none},
		{text("u"), text("u")},
		{node("N"), node("N")},
		{pick(0), kids[0]},
		{pick(1), kids[1]},
		{pick(2), none},
		{pick(3), pick(3)}, // a kid's picks stay as they are
		{node("N", pick(3), pick(0), pick(3), none, text("x")), node("N", pick(3), kids[0], pick(3), none, text("x"))},
		{node("N", node("M", pick(2), node("L", pick(0))), pick(0)), node("N", node("M", none, node("L", kids[0])), kids[0])},
	} {
		isAct(t, c.a, kids, c.want, api.OK)
	}
	isAct(t, node("N", text("x")), nil, node("N", text("x")), api.OK)
}

func TestActWrong(t *testing.T) {
	kids := []api.Act{none, text("t")}
	for _, a := range []api.Act{
		{Kind: 4}, {Kind: -1}, {Kind: 99}, {Kind: 1<<63 - 1}, {Kind: -1 << 63},
		pick(2), pick(-1), pick(1<<63 - 1), pick(-1 << 63),
		node("N", pick(0), pick(1), pick(2)), node("N", node("M", api.Act{Kind: 4})), node("N", api.Act{Kind: -7}, none),
		// Within what has no kids, too.
		{Kind: api.ActText, Kids: []api.Act{pick(2)}}, {Kind: api.ActPick, Kids: []api.Act{{Kind: 4}}}, {Kids: []api.Act{pick(-1)}},
	} {
		isAct(t, a, kids, none, api.ErrArg)
	}
	isAct(t, pick(0), nil, none, api.ErrArg)
	// Kinds of kids are not looked at.
	isAct(t, node("N", pick(0)), []api.Act{{Kind: 77, At: 5}}, node("N", api.Act{Kind: 77, At: 5}), api.OK)
	isAct(t, none, []api.Act{{Kind: 77}}, none, api.OK)
	// Other fields stay, where they have no meaning, too.
	odd := api.Act{Kind: api.ActText, At: 9, Name: "rule", Kids: []api.Act{pick(1), {At: -3, Name: "x"}}}
	isAct(t, odd, kids, api.Act{Kind: api.ActText, At: 9, Name: "rule", Kids: []api.Act{kids[1], {At: -3, Name: "x"}}}, api.OK)
}

// wide is a node over so many kids.
func wide(kids int, of api.Act) api.Act {
	a := node("W")
	for range kids {
		a.Kids = append(a.Kids, of)
	}
	return a
}

func TestActParts(t *testing.T) {
	isAct(t, wide(255, none), nil, wide(255, none), api.OK)
	isAct(t, wide(256, none), nil, none, api.ErrAction)
	isAct(t, pick(0), []api.Act{wide(255, pick(4))}, wide(255, pick(4)), api.OK)
	isAct(t, pick(0), []api.Act{wide(256, pick(4))}, none, api.ErrAction)
	isAct(t, wide(255, pick(0)), []api.Act{text("t")}, wide(255, text("t")), api.OK)
	isAct(t, wide(256, pick(0)), []api.Act{text("t")}, none, api.ErrAction)
	isAct(t, wide(15, pick(0)), []api.Act{wide(16, none)}, wide(15, wide(16, none)), api.OK) // 256
	isAct(t, node("N", wide(15, pick(0))), []api.Act{wide(16, none)}, none, api.ErrAction)
	isAct(t, wide(5, pick(1)), []api.Act{none, wide(50, none)}, wide(5, wide(50, none)), api.OK) // 256
	isAct(t, wide(5, pick(1)), []api.Act{none, wide(51, none)}, none, api.ErrAction)
	// Kids that are not picked count for nothing.
	isAct(t, node("N", pick(1)), []api.Act{wide(1000, none), text("t")}, node("N", text("t")), api.OK)
	// What may not be is told ahead of what is too large.
	isAct(t, node("N", wide(300, none), pick(1)), []api.Act{none}, none, api.ErrArg)
	isAct(t, node("N", pick(0), api.Act{Kind: 4}), []api.Act{wide(300, none)}, none, api.ErrArg)
	isAct(t, node("N", pick(0), pick(0)), []api.Act{wide(300, none), none}, none, api.ErrAction)
}

// As deep as any may be.
func TestActDeep(t *testing.T) {
	deep := func(many int, of api.Act) api.Act {
		for range many {
			of = node("D", of)
		}
		return of
	}
	isAct(t, deep(255, pick(0)), []api.Act{text("t")}, deep(255, text("t")), api.OK)
	isAct(t, deep(256, pick(0)), []api.Act{text("t")}, none, api.ErrAction)
	if _, e := expand.Act(deep(60000, pick(0)), none); e != api.ErrAction {
		t.Error(e)
	}
	if _, e := expand.Act(deep(60000, pick(1)), none); e != api.ErrArg {
		t.Error(e)
	}
	if _, e := expand.Act(pick(0), deep(60000, none)); e != api.ErrAction {
		t.Error(e)
	}
	// Kids that grow by each other: 1, 3, 7, .. 255 parts.
	a := none
	for i := range 7 {
		made, e := expand.Act(node("N", pick(0), pick(0)), a)
		if e != api.OK || wordParts(made) != 2*wordParts(a)+1 {
			t.Error(i, e, wordParts(made))
		}
		a = made
	}
	if _, e := expand.Act(node("N", pick(0), pick(0)), a); e != api.ErrAction {
		t.Error(e)
	}
}

func TestActAtRandom(t *testing.T) {
	m := newMaker(201)
	met := map[api.Errno]int{}
	for range 10000 {
		var kids []api.Act
		for range m.Intn(4) {
			kids = append(kids, m.act(8, 3, m.Intn(6)))
		}
		picks := len(kids)
		if m.Intn(4) == 0 {
			picks++
		}
		a := m.act(picks, 4, m.Intn(14))
		if m.Intn(6) == 0 {
			a = node("N", a, api.Act{Kind: m.Intn(6) - 1, At: m.Intn(6) - 1, Name: "x", Kids: []api.Act{a}})
		}
		met[likeAct(t, a, kids)]++
	}
	if met[api.OK] < 1000 || met[api.ErrArg] < 1000 || met[api.ErrAction] < 100 {
		t.Error("too few:", met)
	}
}

// P11.3: Clear.
func TestClear(t *testing.T) {
	s, _ := parsed(t, "use L (a as b); mode in; token C = [a-c]* pop push in; type T = C(text, T) | D; open inline rule i(x): T = x A prec P => N($1, M($2)) | i(x); inline rule j = ; rule s = i(i(j)); start s j;")
	want := clone(s)
	for i := range want.Rules {
		want.Rules[i].Inline = false
	}
	if got := expand.Clear(s); told(got) != told(want) || !s.Rules[0].Inline || !s.Rules[1].Inline {
		t.Error(told(got))
	}
	if got := expand.Clear(want); told(got) != told(want) {
		t.Error(told(got))
	}
	if got := expand.Clear(api.Spec{}); told(got) != told(api.Spec{}) {
		t.Error(told(got))
	}
	isGrammar(t, "inline rule i = A | B i; rule s = A;", "s = A => $1")
	s, _ = parsed(t, "inline rule i = A | B i; rule s = i; rule q(x) = x; inline rule j(x) = x;")
	g, _, diags := expand.Grammar(expand.Clear(s), "s") // a ring of rules that are inlined no more
	if got := lines(g); len(diags) > 0 || len(got) != 3 || got[2] != "i = B i => _" {
		t.Error(got, diags)
	}
	likeWords(t, expand.Clear(s), "s")
	// A start that is inlined is none that can be; cleared, it is.
	if got := expand.Check(s, "i"); len(got) != 1 {
		t.Error(got)
	}
	if got := expand.Check(expand.Clear(s), "i"); len(got) != 0 {
		t.Error(got)
	}
	if got := expand.Check(expand.Clear(s), "j"); len(got) != 1 {
		t.Error(got)
	}
	// Of any tree.
	m := newMaker(202)
	for range 2000 {
		s := m.wild(3)
		want := clone(s)
		for i := range want.Rules {
			want.Rules[i].Inline = false
		}
		if got := expand.Clear(s); told(got) != told(want) {
			t.Fatal(told(got), told(want))
		}
	}
}
