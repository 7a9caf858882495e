package table_test

import (
	"slices"
	"strconv"
	"testing"

	"quoin/api"
	"quoin/items"
	"quoin/solve"
	"quoin/table"
)

// Tables as large as any may be: all calls end, and soon.

// empty is a table of so many states, kinds and rules, in which there is nothing.
func empty(states, kinds, rules int) api.Table {
	var x api.Table
	for range states {
		x.Moves, x.Goto = append(x.Moves, make([]api.Move, kinds)), append(x.Goto, slices.Repeat([]int{-1}, rules))
	}
	return x
}

// MaxStates states may be, and no more; Defaults and Bytes take more.
func TestMaxStates(t *testing.T) {
	for _, states := range []int{api.MaxStates - 1, api.MaxStates, api.MaxStates + 1} {
		x := empty(states, 2, 1)
		x.Moves[states-1] = []api.Move{{Do: api.MoveShift, N: states - 1}, {Do: api.MoveReduce}}
		x.Goto[0][0] = states - 1
		want := api.OK
		if states > api.MaxStates {
			want = api.ErrTable
		}
		if e := table.Check(x, 2, 1, 1); e != want {
			t.Error(states, e)
		}
		p, e := table.Pack(x, 2, 1, 1)
		if e != want || e == api.OK && told(p) != told(wordPack(x, 2, 1)) || e != api.OK && told(p) != told(api.Packed{}) {
			t.Error(states, e)
		}
		g := read("S = error")
		if n, e := table.Sound(g, x); n != 0 && n != states-1 || e != api.ErrTable {
			t.Error(states, n, e)
		}
		if y, e := table.Defaults(x); e != api.OK || told(y) != told(wordDefaults(x)) {
			t.Error(states, e)
		}
		b, e := table.Bytes(x)
		all, is := wordBytes(x)
		if e != api.OK || !is || !slices.Equal(b, all) {
			t.Error(states, e)
		}
		if y, f := table.Read(b); f != (api.Fault{}) || told(y) != told(x) {
			t.Error(states, f)
		}
	}
}

// A packed table of MaxStates states says one, and of more none.
func TestUnpackMaxStates(t *testing.T) {
	for _, states := range []int{api.MaxStates, api.MaxStates + 1} {
		p := api.Packed{Kinds: 2, Rules: 1, Default: make([]api.Move, states), Base: make([]int, states), GotoBase: make([]int, states)}
		p.Default[states-1], p.GotoCheck, p.GotoCell = api.Move{Do: api.MoveReduce, N: 7}, []int{states - 1}, []int{5}
		x, e := table.Unpack(p)
		if states > api.MaxStates {
			if e != api.ErrTable || told(x) != told(api.Table{}) {
				t.Error(states, e)
			}
		} else if e != api.OK || len(x.Moves) != states || x.Moves[states-1][1] != p.Default[states-1] || x.Goto[states-1][0] != 5 || x.Goto[0][0] != -1 {
			t.Error(states, e)
		}
		if m, to := table.Move(p, states-1, 0), table.Goto(p, states-1, 0); m != p.Default[states-1] || to != 5 { // looks have no limit
			t.Error(states, m, to)
		}
	}
}

// As many states, kinds and rules as may be, with an entry in each fifth place.
func TestLargest(t *testing.T) {
	m := newMaker(1080)
	x := empty(api.MaxStates, api.MaxKinds, api.MaxRules)
	for s := range x.Moves {
		for range 20 {
			x.Moves[s][m.Intn(api.MaxKinds)] = m.move(api.MaxStates, api.MaxProds)
			x.Goto[s][m.Intn(api.MaxRules)] = m.Intn(api.MaxStates)
		}
	}
	p, e := table.Pack(x, api.MaxKinds, api.MaxRules, api.MaxProds)
	if e != api.OK {
		t.Fatal(e)
	}
	y, e := table.Unpack(p)
	z, eDefaults := table.Defaults(x)
	if e != api.OK || eDefaults != api.OK {
		t.Fatal(e, eDefaults)
	}
	for s := range z.Moves {
		if !slices.Equal(y.Moves[s], z.Moves[s]) || !slices.Equal(y.Goto[s], z.Goto[s]) {
			t.Fatal(s)
		}
	}
	b, e := table.Bytes(x)
	back, f := table.Read(b)
	if e != api.OK || f != (api.Fault{}) || len(back.Moves) != api.MaxStates {
		t.Fatal(e, f)
	}
	for s := range x.Moves {
		if !slices.Equal(back.Moves[s], x.Moves[s]) || !slices.Equal(back.Goto[s], x.Goto[s]) {
			t.Fatal(s)
		}
	}
}

// plain is a grammar of the kinds k0, k1, .. (2, 3, ..), as many as there may be, and of so many rules (1024, ..). The first one is the start.
func plain(rules int, prods ...api.Prod) api.Plain {
	g := api.Plain{Kinds: []string{"end", "error"}, Precs: make([]api.Prec, api.MaxKinds), Prods: prods}
	for n := range api.MaxKinds - 2 {
		g.Kinds = append(g.Kinds, "k"+strconv.Itoa(n))
	}
	for n := range rules {
		g.Rules = append(g.Rules, "R"+strconv.Itoa(n))
	}
	return g
}

const firstRule = api.MaxKinds

// line is a row of so many symbols: its own kind, and others that are alike in all. By it as many states are met.
func line(kind, length int) []int {
	return append([]int{kind}, slices.Repeat([]int{2}, length-1)...)
}

// A grammar whose automaton has as many states as may be, with long rows.
func TestSoundMaxStates(t *testing.T) {
	var prods []api.Prod
	for n := range 63 {
		prods = append(prods, api.Prod{Right: line(3+n, 64)})
	}
	g := plain(100, append(prods, api.Prod{Right: line(66, 62)})...)
	x := solved(t, g)
	if len(x.Moves) != api.MaxStates {
		t.Fatal(len(x.Moves))
	}
	if n, e := table.Sound(g, x); n != 0 || e != api.OK {
		t.Error(n, e)
	}
	last := api.MaxStates - 1
	was := x.Moves[last][api.KindEnd]
	if was.Do != api.MoveReduce {
		t.Fatal(was)
	}
	x.Moves[last][api.KindEnd].N = 0
	if n, e := table.Sound(g, x); n != last || e != api.ErrTable {
		t.Error(n, e)
	}
}

// A ring of states by one kind, and productions of that kind in all lengths: the ways have no end, and all but those to the first states have all of them at the end.
func TestManyWays(t *testing.T) {
	var prods []api.Prod
	for n := range api.MaxProds {
		prods = append(prods, api.Prod{Right: slices.Repeat([]int{2}, n%(api.MaxRight+1))})
	}
	g := plain(1, prods...)
	const ring = 1000
	x := empty(ring+1, api.MaxKinds, 1)
	for s := range ring {
		x.Moves[s][2], x.Goto[s][0] = api.Move{Do: api.MoveShift, N: (s + 1) % ring}, ring
	}
	for s := api.MaxRight; s < ring; s++ {
		for kind := 3; kind < api.MaxKinds; kind++ {
			x.Moves[s][kind] = api.Move{Do: api.MoveReduce, N: (s + 7*kind) % api.MaxProds}
		}
	}
	if n, e := table.Sound(g, x); n != 0 || e != api.OK {
		t.Error(n, e)
	}
	x.Moves[api.MaxRight-1][3] = api.Move{Do: api.MoveReduce, N: api.MaxRight} // one more than its shortest way has
	if n, e := table.Sound(g, x); n != api.MaxRight-1 || e != api.ErrTable {
		t.Error(n, e)
	}
}

// As many rules and productions as may be, all of which lead to one another.
func TestMaxProds(t *testing.T) {
	var prods []api.Prod
	for n := range api.MaxProds {
		prods = append(prods, api.Prod{Left: n / 2, Right: []int{firstRule + (n/2+1+n%2)%api.MaxRules}})
	}
	g := plain(api.MaxRules, prods...)
	a, e := items.Build(g)
	x, _, eSolve := solve.Solve(g, a)
	if e != api.OK || eSolve != api.OK {
		t.Fatal(e, eSolve)
	}
	if n, e := table.Sound(g, x); n != 0 || e != api.OK {
		t.Error(n, e)
	}
	p, e := table.Pack(x, len(g.Kinds), len(g.Rules), len(g.Prods))
	if e != api.OK || len(p.Default) != len(x.Moves) {
		t.Error(e)
	}
}
