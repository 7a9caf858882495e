package print_test

import (
	"testing"

	"quoin/api"
	"quoin/print"
)

// The chapter's section Examples.

func TestExample1(t *testing.T) {
	isFormat(t, `module M;start e;left P;token P="+";rule e:E=e P e=>Add($1,$3)|P;type E=Add(E,E);`, `module M;

token P = [+];

left P;

type E = Add(E, E);

rule e: E
	= e P e => Add($1, $3)
	| P
	;

start e;
`)
}

func TestExample2(t *testing.T) {
	if s, e := print.Act(api.Act{Kind: api.ActPick, At: 0}, 1); s != "$1" || e != api.OK {
		t.Error(s, e)
	}
	if s, e := print.Act(api.Act{Kind: api.ActPick, At: 0}, 0); s != "" || e != api.ErrForm {
		t.Error(s, e)
	}
	if s, e := print.Ref(api.Ref{Name: "if"}); s != "if" || e != api.OK {
		t.Error(s, e)
	}
	if s, e := print.Ref(api.Ref{Name: "open"}); s != "" || e != api.ErrForm {
		t.Error(s, e)
	}
}
