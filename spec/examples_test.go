package spec_test

import (
	"testing"

	"quoin/api"
	"quoin/regex"
	"quoin/spec"
)

// The chapter's section Examples.

func TestExample1(t *testing.T) {
	s, f := spec.Parse(`module M; token A = "a"+ push in; mode in; skip = [ ]; rule r: T = A r => N($1, $2) | ; start r;`)
	if f != (api.Fault{}) || len(s.Lex) != 2 || len(s.Rules) != 1 || len(s.Rules[0].Alts) != 2 {
		t.Fatal(s, f)
	}
	first, second := s.Lex[0], s.Lex[1]
	if re, _ := regex.Text(first.Re); first.Mode != "main" || first.Name != "A" || re != "[a] [a]*" || first.Push != "in" || first.At != 10 {
		t.Error(first)
	}
	if second.Mode != "in" || second.Name != "" {
		t.Error(second)
	}
	a, b := s.Rules[0].Alts[0], s.Rules[0].Alts[1]
	want := api.Act{Kind: api.ActNode, Name: "N", Kids: []api.Act{{Kind: api.ActPick, At: 0}, {Kind: api.ActPick, At: 1}}}
	if told(a.Act, true) != told(want, true) || len(b.Syms) != 0 || b.Act.Kind != api.ActNone {
		t.Error(a, b)
	}
}

func TestExample2(t *testing.T) {
	refused(t, "module M; rule r = a => $2;", api.ErrArg, 25)
	if l := parsed(t, "module M; rule r = ;").Rules[0].Alts; len(l) != 1 || len(l[0].Syms) != 0 {
		t.Error(l)
	}
	refused(t, "module M; rule = a;", api.ErrSpec, 15)
	refused(t, "module M; token A = ;", api.ErrForm, 20)
	refused(t, "rule", api.ErrSpec, 0)
}
