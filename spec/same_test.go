package spec_test

import (
	"math/rand"
	"reflect"
	"testing"

	"quoin/api"
	"quoin/regex"
	"quoin/spec"
)

// Q2: Same: of any trees, places aside; lists that are empty are one.

// sameLikeWords holds Same of two trees, both ways, against all that stands in them.
func sameLikeWords(t *testing.T, a, b api.Spec) bool {
	t.Helper()
	want := told(a, false) == told(b, false)
	if is, sure := isSame(a, b); is != want || !sure {
		t.Fatalf("%s\n%s\n%v", told(a, true), told(b, true), is)
	}
	return want
}

// One part of a tree is made another one: just a place turns nothing.
func TestSameOfOneChange(t *testing.T) {
	sames, places := 0, 0
	for i := range partsOf(new(plainTree())) {
		s := plainTree()
		p := partsOf(&s)[i]
		sameLikeWords(t, s, plainTree())
		for _, x := range others(p.value) {
			p.value.Set(x)
			is := sameLikeWords(t, s, plainTree())
			sameLikeWords(t, s, clone(s))
			if p.place {
				places++
				if !is {
					t.Error(p.path, "is a place")
				}
			} else if is {
				sames++
			}
		}
	}
	if places == 0 || sames == 0 {
		t.Error(places, sames)
	}
}

func TestSameAtRandom(t *testing.T) {
	m := maker{rand.New(rand.NewSource(82))}
	var last api.Spec
	for range 300 {
		s := m.tree()
		sameLikeWords(t, s, last)
		last = s
		other := clone(s)
		for _, p := range partsOf(&other) {
			if p.place {
				p.value.SetInt(int64(m.Intn(99)))
			}
			if p.value.Kind() == reflect.Slice && p.value.Len() == 0 {
				p.value.Set(reflect.MakeSlice(p.value.Type(), 0, m.Intn(2)))
			}
		}
		if !sameLikeWords(t, s, other) {
			t.Fatal("places, or empty lists, count")
		}
		l := partsOf(&other)
		for range 20 {
			p := l[m.Intn(len(l))]
			if p.value.CanSet() && p.value.Kind() != reflect.Slice {
				all := others(p.value)
				p.value.Set(all[m.Intn(len(all))])
			}
			sameLikeWords(t, s, other)
		}
	}
}

// Trees that are none are the same likewise.
func TestSameOfWrongTrees(t *testing.T) {
	wrong := func(kind int, lo rune, kids ...api.Regex) api.Spec {
		return api.Spec{Lex: []api.LexLine{{Re: api.Regex{Kind: kind, Set: []api.Range{{Lo: lo, Hi: -3}}, Kids: kids}}}}
	}
	trees := []api.Spec{{}, wrong(-7, 5), wrong(-7, 6), wrong(8, 5), wrong(8, 5, api.Regex{}), wrong(8, 5, api.Regex{}, api.Regex{}), wrong(8, 5, api.Regex{Kind: 77}),
		{Precs: []api.PrecLine{{Assoc: 9}}}, {Precs: []api.PrecLine{{Assoc: -9}}}, {Starts: []string{""}}, {Starts: []string{"", ""}},
		{Rules: []api.RuleLine{{}}}, {Rules: []api.RuleLine{{Alts: []api.Alt{{}}}}}, {Rules: []api.RuleLine{{Alts: []api.Alt{{Act: api.Act{Kind: -1}}}}}},
		{Rules: []api.RuleLine{{Alts: []api.Alt{{Act: api.Act{At: -1}}}}}}, {Rules: []api.RuleLine{{Alts: []api.Alt{{Act: api.Act{Kids: []api.Act{{At: 3}}}}}}}}}
	for i, a := range trees {
		for j, b := range trees {
			if is, sure := isSame(a, clone(b)); is != (i == j) || !sure {
				t.Error(i, j)
			}
			if spec.Right(a) {
				t.Error(i, "right")
			}
		}
	}
	// Expressions that are not in their one form are two, though they take the same rows.
	set := api.Regex{Kind: api.ReSet, Set: []api.Range{{Lo: 'a', Hi: 'a'}}}
	one := api.Spec{Lex: []api.LexLine{{Re: set}}}
	other := api.Spec{Lex: []api.LexLine{{Re: api.Regex{Kind: api.ReCat, Kids: []api.Regex{set}}}}}
	if n, _ := regex.Normal(other.Lex[0].Re); regex.Compare(n, set) != 0 || spec.Same(one, other) {
		t.Error("the same")
	}
}

// Lists of which one is the other one's beginning are two.
func TestSameOfLists(t *testing.T) {
	for _, cut := range []func(*api.Spec){
		func(s *api.Spec) { s.Uses = nil },
		func(s *api.Spec) { s.Uses[0].Names = nil },
		func(s *api.Spec) { s.Lex = nil },
		func(s *api.Spec) { s.Lex[0].Re.Set = nil },
		func(s *api.Spec) { s.Precs = nil },
		func(s *api.Spec) { s.Precs[0].Names = nil },
		func(s *api.Spec) { s.Datas = nil },
		func(s *api.Spec) { s.Datas[0].Data.Ctors = nil },
		func(s *api.Spec) { s.Datas[0].Data.Ctors[0].Fields = nil },
		func(s *api.Spec) { s.Rules = nil },
		func(s *api.Spec) { s.Rules[0].Params = nil },
		func(s *api.Spec) { s.Rules[0].Alts = nil },
		func(s *api.Spec) { s.Rules[0].Alts[0].Syms = s.Rules[0].Alts[0].Syms[:1] },
		func(s *api.Spec) { s.Rules[0].Alts[0].Syms[0].Args = nil },
		func(s *api.Spec) { s.Rules[0].Alts[0].Act.Kids = s.Rules[0].Alts[0].Act.Kids[:2] },
		func(s *api.Spec) { s.Starts = nil },
	} {
		s := plainTree()
		cut(&s)
		if sameLikeWords(t, s, plainTree()) {
			t.Error(told(s, false))
		}
	}
}
