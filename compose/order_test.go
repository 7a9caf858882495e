package compose_test

import (
	"slices"
	"strconv"
	"strings"
	"testing"

	"quoin/api"
	"quoin/compose"
	"quoin/spec"
)

// D1: Order, and what is wrong up to 3.

func TestNoModules(t *testing.T) {
	for _, main := range []string{"M", "", "rule", "a b", strings.Repeat("w", 40), "\xff"} {
		want := []api.Diag{{Module: main, Why: api.ErrModule}}
		if got := compose.Check(main); !slices.Equal(got, want) {
			t.Error(got)
		}
		if s, got := compose.Compose(main); told(s) != told(api.Spec{}) || !slices.Equal(got, want) {
			t.Error(s, got)
		}
		if l, got := compose.Order(main); len(l) > 0 || !slices.Equal(got, want) {
			t.Error(l, got)
		}
		if n, e := compose.Name(main, main, "r"); n != "" || e != api.ErrArg {
			t.Error(n, e)
		}
		likeWords(t, main)
		likeWords(t, main, api.Spec{Name: "N"})
	}
}

func TestMainModule(t *testing.T) {
	isWrong(t, []string{`module N; rule r = q;`}, "M ErrModule 0")
	isWrong(t, []string{`module m;`, `module MM;`}, "M ErrModule 0")
	isWrong(t, []string{`module M; rule @ar = @bq;`, `module M;`}, "M ErrModule 0")
	isWrong(t, []string{`module M;`, `module M;`, `module M;`}, "M ErrModule 0", "M ErrModule 0")
	isWrong(t, []string{`module M;`})
	isComposed(t, []string{`module M;`}, `module M;`)
	isOrder(t, []string{`module M;`}, "M")
	isOrder(t, []string{`module A;`, `module M;`, `module B; use M;`}, "M")
}

func TestNamesTwice(t *testing.T) {
	isWrong(t, []string{`module A;`, `module B;`, `module A;`, `module M;`, `module B;`, `module A;`},
		"A ErrModule 0", "B ErrModule 0", "A ErrModule 0")
	// The main one that is not there is told behind them.
	isWrong(t, []string{`module A;`, `module B;`, `module B;`, `module A;`}, "B ErrModule 0", "A ErrModule 0", "M ErrModule 0")
	// Those that nothing uses count, too; nothing else is told behind 2.
	isWrong(t, []string{`module M; use X; use M; rule r = q;`, `module A;`, `module A;`}, "A ErrModule 0")
}

// wrongTrees are modules that are not right, each for another reason.
func wrongTrees() []api.Spec {
	return []api.Spec{
		{},
		{Name: "rule"},
		{Name: "a b"},
		{Name: strings.Repeat("w", 33)},
		{Name: "M", Starts: []string{""}},
		{Name: "M", Uses: []api.Use{{Module: "9"}}},
		{Name: "M", Uses: []api.Use{{Module: "L", Names: []api.Rename{{Name: "a"}}}}},
		{Name: "M", Lex: []api.LexLine{{Mode: "main", Name: "A", Re: api.Regex{Kind: 99}}}},
		{Name: "M", Precs: []api.PrecLine{{Assoc: api.AssocLeft}}},
		{Name: "M", Datas: []api.DataLine{{Data: api.Data{Name: "D"}}}},
		{Name: "M", Rules: []api.RuleLine{{Name: "r"}}},
		{Name: "M", Rules: []api.RuleLine{{Name: "r", Alts: []api.Alt{{Act: api.Act{Kind: api.ActPick}}}}}},
		{Name: "M", Rules: slices.Repeat([]api.RuleLine{{Name: "r", Alts: []api.Alt{{}}}}, 257)},
	}
}

func TestWrongModules(t *testing.T) {
	ok := api.Spec{Name: "M"}
	for _, x := range wrongTrees() {
		if spec.Right(x) {
			t.Fatal("the test is wrong")
		}
		told := api.Diag{Module: x.Name, Why: api.ErrArg}
		for _, c := range []struct {
			l    []api.Spec
			want []api.Diag
		}{
			{[]api.Spec{x}, []api.Diag{told}},
			{[]api.Spec{x, x}, []api.Diag{told, told}}, // nothing of its being there twice
			{[]api.Spec{ok, ok, x}, []api.Diag{told}},
			{[]api.Spec{x, {Name: "N"}}, []api.Diag{told}}, // nor of a main one that is not there
			{[]api.Spec{{Name: "M", Uses: []api.Use{{Module: "X"}, {Module: "M"}}}, x}, []api.Diag{told}},
		} {
			if got := compose.Check("M", c.l...); !slices.Equal(got, c.want) {
				t.Error(got, c.want)
			}
			likeWords(t, "M", c.l...)
		}
	}
	var want []api.Diag
	for _, x := range wrongTrees() {
		want = append(want, api.Diag{Module: x.Name, Why: api.ErrArg})
	}
	if _, got := compose.Order("M", append(wrongTrees(), ok)...); !slices.Equal(got, want) {
		t.Error(got)
	}
}

func TestOrder(t *testing.T) {
	isOrder(t, []string{`module M; use A; use B;`, `module A;`, `module B;`}, "M", "A", "B")
	isOrder(t, []string{`module M; use B; use A;`, `module A;`, `module B;`}, "M", "B", "A")
	// A visit goes into a used module ahead of the next Use.
	isOrder(t, []string{`module M; use A; use B;`, `module B; use D;`, `module A; use C;`, `module C; use E;`, `module D;`, `module E;`}, "M", "A", "C", "E", "B", "D")
	isOrder(t, []string{`module M; use A; use B;`, `module A; use B;`, `module B;`}, "M", "A", "B")
	isOrder(t, []string{`module M; use A; use B;`, `module A;`, `module B; use A;`}, "M", "A", "B")
	isOrder(t, []string{`module M; use A; use B;`, `module A; use C;`, `module B; use C; use D;`, `module C;`, `module D; use A;`}, "M", "A", "C", "B", "D")
	// Used twice by one, and by several.
	isOrder(t, []string{`module M; use A; use A; use B; use A;`, `module A;`, `module B; use A; use A;`}, "M", "A", "B")
	isOrder(t, []string{`module M; use A (r as s); use A (r as t); rule q = s t;`, `module A; open rule r = ;`}, "M", "A")
	isOrder(t, []string{`module M; use A; use B; use C;`, `module A; use D;`, `module B; use D;`, `module C; use D;`, `module D;`}, "M", "A", "D", "B", "C")
	// What else is wrong has no part.
	modules, _ := parsed(t, `module M; use L (x); rule r = q; rule r = ;`, `module L;`)
	if l, d := compose.Order("M", modules...); !slices.Equal(l, []string{"M", "L"}) || len(d) > 0 {
		t.Error(l, d)
	}
}

func TestModulesThatAreNotThere(t *testing.T) {
	isWrong(t, []string{`module M; @ause X;`}, "M ErrModule a")
	isWrong(t, []string{`module M; @ause X (a, b as c); @buse Y; use L; @cuse X;`, `module L; @duse X; use K;`, `module K; @euse Z;`},
		"M ErrModule a", "M ErrModule b", "L ErrModule d", "K ErrModule e", "M ErrModule c")
	// A module that nothing uses is not visited.
	isWrong(t, []string{`module M;`, `module L; use X; use L;`})
	// Visited once, told once.
	isWrong(t, []string{`module M; use A; use A; use B;`, `module A; @ause X;`, `module B; use A;`}, "A ErrModule a")
	// Nothing else behind 3.
	isWrong(t, []string{`module M; use L (zz); rule r = q; rule r = ; @ause X; token A = "a";`, `module L; token A = "a"; rule p = q;`}, "M ErrModule a")
}

func TestRings(t *testing.T) {
	isWrong(t, []string{`module M; @ause M;`}, "M ErrRing a")
	isWrong(t, []string{`module M; @ause M (r); open rule r = ; rule q = z;`}, "M ErrRing a")
	isWrong(t, []string{`module M; use L;`, `module L; @ause M;`}, "L ErrRing a")
	isWrong(t, []string{`module M; use A;`, `module A; use B;`, `module B; @ause M;`}, "B ErrRing a")
	isWrong(t, []string{`module M; use A;`, `module A; use B;`, `module B; use C;`, `module C; @ause A;`}, "C ErrRing a")
	isWrong(t, []string{`module M; use A; @ause M; use B;`, `module A; @buse A; @cuse M; use B; @duse A;`, `module B; @euse A; @fuse M; @guse B;`},
		"A ErrRing b", "A ErrRing c", "B ErrRing e", "B ErrRing f", "B ErrRing g", "A ErrRing d", "M ErrRing a")
	// Both in one, in the order of visits.
	isWrong(t, []string{`module M; @ause X; use A; @buse Y; @cuse M;`, `module A; @duse M; @euse X; use B;`, `module B; @fuse X; @guse A;`},
		"M ErrModule a", "A ErrRing d", "A ErrModule e", "B ErrModule f", "B ErrRing g", "M ErrModule b", "M ErrRing c")
	// One whose visit has ended makes no ring.
	isWrong(t, []string{`module M; use A; use B;`, `module A; use B;`, `module B;`})
	isWrong(t, []string{`module M; use B; use A;`, `module A; use B;`, `module B;`})
	// A ring beside the way is none.
	isWrong(t, []string{`module M; use A;`, `module A;`, `module B; use C;`, `module C; use B;`, `module D; use D;`})
	isWrong(t, []string{`module M; use L; rule r = q; rule r = ;`, `module L; @ause M; rule p = q;`}, "L ErrRing a")
}

// chain are modules that use one another in a row, the first one M; the last may lead back.
func chain(many int, isRing bool) []api.Spec {
	var l []api.Spec
	for i := range many {
		s := api.Spec{Name: "M"}
		if i > 0 {
			s.Name = "M" + strconv.Itoa(i)
		}
		if i+1 < many {
			s.Uses = []api.Use{{Module: "M" + strconv.Itoa(i+1), At: i}}
		}
		l = append(l, s)
	}
	if isRing {
		l[many-1].Uses = []api.Use{{Module: "M", At: 7}}
	}
	return l
}

func TestLongWays(t *testing.T) {
	const many = 100000
	l := chain(many, false)
	slices.Reverse(l)
	order, d := compose.Order("M", l...)
	slices.Reverse(l)
	if len(d) > 0 || !slices.Equal(order, namesOf(l)) {
		t.Error(len(order), d)
	}
	if s, d := compose.Compose("M", l...); len(d) > 0 || told(s) != told(api.Spec{Name: "M"}) {
		t.Error(d)
	}
	if d := compose.Check("M", chain(many, true)...); !slices.Equal(d, []api.Diag{{Module: "M" + strconv.Itoa(many-1), Why: api.ErrRing, At: 7}}) {
		t.Error(d)
	}
}
