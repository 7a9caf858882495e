package token_test

import (
	"testing"

	"quoin/api"
	"quoin/token"
)

// The chapter's section Examples.

func TestExample1(t *testing.T) {
	if e := token.Kinds("end", "error", "num"); e != api.OK {
		t.Error(e)
	}
	if e := token.Kinds("end"); e != api.ErrKind {
		t.Error(e)
	}
	if e := token.Kinds("end", "error", "9x"); e != api.ErrKind {
		t.Error(e)
	}
	if lines, e := token.Lines([]string{"end", "error", "num"}, "12", []api.Tok{{Kind: 2, From: 0, To: 2}}); lines != "num 0 2 \"12\"\n" || e != api.OK {
		t.Error(lines, e)
	}
}

func TestExample2(t *testing.T) {
	one := api.Tok{Kind: 2, From: 0, To: 2}
	c := token.NewCursor(one)
	if c.Peek() != one || c.Next() != one || c.Next() != (api.Tok{Kind: 0, From: 2, To: 2}) || !c.Back(1) || c.At() != 0 || c.Back(1) {
		t.Error(c.Peek(), c.At())
	}
}
