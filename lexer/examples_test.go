package lexer_test

import (
	"testing"

	"quoin/api"
	"quoin/lexer"
)

// The chapter's examples.

func TestExampleOfTwoRules(t *testing.T) {
	s := plain(t, `"if"`, `[a-z]+`)
	l, f := lexer.All(s, "iff")
	tells(t, l, f, none, tok(3, 0, 3))
	l, f = lexer.All(s, "if")
	tells(t, l, f, none, tok(2, 0, 2))
	l, f = lexer.All(s, "if1")
	tells(t, l, f, fault(api.ErrLex, 2), tok(2, 0, 2))
	x := made(t, s)
	l, f = x.Feed("i")
	tells(t, l, f, none)
	l, f = x.Feed("f")
	tells(t, l, f, none)
	l, f = x.Feed(" ")
	tells(t, l, f, fault(api.ErrLex, 2), tok(2, 0, 2))
}

func TestExampleOfPieces(t *testing.T) {
	x := made(t, plain(t, `"a"`))
	l, f := x.Feed("a")
	tells(t, l, f, none, tok(2, 0, 1))
	l, f = x.Feed("\xe2")
	tells(t, l, f, none)
	l, f = x.Feed("\x82")
	tells(t, l, f, none)
	l, f = x.End()
	tells(t, l, f, fault(api.ErrUtf8, 1))
	if mode, n, e := lexer.Check(plain(t, `[a]*`)); mode != 0 || n != 0 || e != api.ErrEmpty {
		t.Error(mode, n, e)
	}
}

func TestExampleOfModes(t *testing.T) {
	s := scanner([]api.LexRule{turning(t, `"("`, 2, 2, false)}, []api.LexRule{turning(t, `")"`, 3, 0, true)})
	l, f := lexer.All(s, "())")
	tells(t, l, f, fault(api.ErrLex, 2), tok(2, 0, 1), tok(3, 1, 2))
}
