package table_test

import (
	"testing"

	"quoin/api"
	"quoin/table"
)

// The chapter's section Examples, and one worked out in all.

func TestExample(t *testing.T) {
	reduce := api.Move{Do: api.MoveReduce, N: 0}
	x := api.Table{Moves: [][]api.Move{{reduce, {}, reduce}}, Goto: [][]int{{}}}
	y, e := table.Defaults(x)
	if want := (api.Table{Moves: [][]api.Move{{reduce, reduce, reduce}}, Goto: [][]int{{}}}); e != api.OK || told(y) != told(want) {
		t.Error(y, e)
	}
	p, e := table.Pack(x, 3, 0, 1)
	want := api.Packed{
		Kinds: 3, Rules: 0,
		Default:  []api.Move{reduce},
		Base:     []int{0},
		Check:    []int{-1, -1, -1},
		Cell:     []api.Move{{}, {}, {}},
		GotoBase: []int{0},
	}
	if e != api.OK || told(p) != told(want) {
		t.Errorf("%+v, %v", p, e)
	}
	for kind := range 3 {
		if m := table.Move(p, 0, kind); m != reduce {
			t.Error(kind, m)
		}
	}
	if e := table.Check(x, 3, 0, 1); e != api.OK {
		t.Error(e)
	}
}

// The table of S = S a; S = a, in all.
func TestWorkedExample(t *testing.T) {
	g := read("S = S a; S = a")
	x := solved(t, g)
	if told(x) != told(tab(". . s1 | 2; r1 . r1 | -; acc . s3 | -; r0 . r0 | -")) {
		t.Fatal(x)
	}
	y, e := table.Defaults(x)
	if e != api.OK || told(y) != told(tab(". . s1 | 2; r1 r1 r1 | -; acc . s3 | -; r0 r0 r0 | -")) {
		t.Error(y, e)
	}
	p, e := table.Pack(x, 3, 1, 2)
	want := api.Packed{
		Kinds: 3, Rules: 1,
		Default:   []api.Move{{}, {Do: api.MoveReduce, N: 1}, {}, {Do: api.MoveReduce, N: 0}},
		Base:      []int{1, 0, 0, 0}, // the state 2 has two entries: it is laid first
		Check:     []int{2, -1, 2, 0},
		Cell:      []api.Move{{Do: api.MoveAccept}, {}, {Do: api.MoveShift, N: 3}, {Do: api.MoveShift, N: 1}},
		GotoBase:  []int{0, 0, 0, 0},
		GotoCheck: []int{0},
		GotoCell:  []int{2},
	}
	if e != api.OK || told(p) != told(want) {
		t.Errorf("%+v, %v", p, e)
	}
	if m, to := table.Move(p, 1, api.KindError), table.Goto(p, 0, 0); m != (api.Move{Do: api.MoveReduce, N: 1}) || to != 2 {
		t.Error(m, to)
	}
	if n, e := table.Sound(g, x); n != 0 || e != api.OK {
		t.Error(n, e)
	}
	x.Moves[3][0].N = 1 // behind S a there is the row a, too: but ahead of it is no Goto
	if n, e := table.Sound(g, x); n != 3 || e != api.ErrTable {
		t.Error(n, e)
	}
	likeWords(t, g, solved(t, g))
}
