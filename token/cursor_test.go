package token_test

import (
	"math"
	"math/rand"
	"testing"

	"quoin/api"
	"quoin/token"
)

// P7.4 and P7.6: cursors; R1: those that no call made

// stands holds how a cursor stands against the words.
func stands(t *testing.T, c *token.Cursor, g *going) {
	t.Helper()
	if c.At() != g.at || c.Left() != len(g.l)-g.at || c.Peek() != g.peek() {
		t.Fatalf("at %d, left %d, %v, not at %d, left %d, %v", c.At(), c.Left(), c.Peek(), g.at, len(g.l)-g.at, g.peek())
	}
}

func moved(t *testing.T, c *token.Cursor, g *going) {
	t.Helper()
	if got, want := c.Next(), g.next(); got != want {
		t.Fatal(got, "not", want)
	}
	stands(t, c, g)
}

func backed(t *testing.T, c *token.Cursor, g *going, n int) {
	t.Helper()
	if got, want := c.Back(n), g.back(n); got != want {
		t.Fatal("back by", n, got)
	}
	stands(t, c, g)
}

// marked is a mark of a cursor, which is another one.
func marked(t *testing.T, c *token.Cursor) *token.Cursor {
	t.Helper()
	m := c.Mark()
	if m == nil || m == c {
		t.Fatal("not another cursor")
	}
	return m
}

// rows are tokens of all sorts, also such as may be in no row.
func rows() [][]api.Tok {
	return [][]api.Tok{
		nil, {}, toks(tok(2, 0, 2)), toks(tok(2, 3, 3)), toks(tok(2, 0, 1), tok(3, 1, 4)), toks(tok(2, 0, 0), tok(2, 0, 0), tok(2, 0, 0)),
		toks(tok(0, 1, 2)), toks(tok(2, 0, 1), tok(0, 0, 0), tok(1, 2, 3)), toks(tok(0, 0, 0), tok(0, 0, 0)), toks(tok(-7, 9, -4)), toks(tok(5, 8, 9), tok(-1, 4, 2)), toks(tok(2, math.MinInt, math.MaxInt), tok(math.MaxInt, 1, math.MinInt)),
	}
}

// P7.6: the row, and then the end for ever; and once again from everywhere.
func TestNextTellsTheRow(t *testing.T) {
	for _, l := range rows() {
		c, g := token.NewCursor(l...), &going{l: l}
		stands(t, c, g)
		for _, want := range l {
			if got := c.Peek(); got != want {
				t.Fatal(got, want)
			}
			if got := c.Next(); got != want {
				t.Fatal(got, want)
			}
			g.next()
			stands(t, c, g)
		}
		for range 5 {
			moved(t, c, g)
			stands(t, c, g)
		}
		for n := range len(l) + 1 {
			backed(t, c, g, n)
			for range n + 2 {
				moved(t, c, g)
			}
		}
	}
}

func TestEnds(t *testing.T) {
	for _, x := range []struct {
		l    []api.Tok
		want api.Tok
	}{
		{nil, tok(0, 0, 0)}, {toks(tok(2, 0, 2)), tok(0, 2, 2)}, {toks(tok(2, 0, 2), tok(3, 4, 9)), tok(0, 9, 9)}, {toks(tok(2, 0, 9), tok(3, 1, 3)), tok(0, 3, 3)}, {toks(tok(2, 5, -6)), tok(0, -6, -6)}, {toks(tok(0, 3, 8)), tok(0, 8, 8)},
	} {
		c := token.NewCursor(x.l...)
		for range x.l {
			c.Next()
		}
		for range 3 {
			if c.Peek() != x.want || c.Next() != x.want || c.At() != len(x.l) || c.Left() != 0 {
				t.Error(x.l, c.Peek(), c.At(), c.Left())
			}
		}
	}
}

// Back at every place by everything around what may be.
func TestBack(t *testing.T) {
	for _, l := range rows() {
		for at := range len(l) + 1 {
			for _, n := range []int{0, 1, at - 1, at, at + 1, at + 2, len(l), len(l) + 1, -1, -at, -len(l), math.MinInt, math.MaxInt} {
				c, g := token.NewCursor(l...), &going{l: l}
				for range at {
					moved(t, c, g)
				}
				backed(t, c, g, n)
				backed(t, c, g, 0)
				moved(t, c, g)
				moved(t, c, g)
			}
		}
	}
}

// A mark at every place, behind the last one too; both are gone on with, and neither turns the other.
func TestMark(t *testing.T) {
	for _, l := range rows() {
		for at := range len(l) + 2 {
			c, g := token.NewCursor(l...), &going{l: l}
			for range at {
				moved(t, c, g)
			}
			m, h := marked(t, c), &going{l: l, at: g.at}
			stands(t, m, h)
			for range len(l) + 1 {
				moved(t, c, g)
				stands(t, m, h)
			}
			backed(t, m, h, h.at)
			stands(t, c, g)
			moved(t, m, h)
			backed(t, c, g, g.at)
			stands(t, m, h)
			backed(t, m, h, 1)
			stands(t, marked(t, m), h)
		}
	}
}

func TestCursorsByChance(t *testing.T) {
	chance := rand.New(rand.NewSource(74))
	for range 3000 {
		var l []api.Tok
		for range chance.Intn(7) {
			l = append(l, tok(chance.Intn(5)-1, chance.Intn(9)-2, chance.Intn(9)-2))
		}
		cs, gs := []*token.Cursor{token.NewCursor(l...)}, []*going{{l: l}}
		for range 40 {
			i := chance.Intn(len(cs))
			switch chance.Intn(6) {
			case 0:
				cs, gs = append(cs, marked(t, cs[i])), append(gs, &going{l: l, at: gs[i].at})
			case 1, 2:
				backed(t, cs[i], gs[i], chance.Intn(5)-1)
			default:
				moved(t, cs[i], gs[i])
			}
			for k := range cs {
				stands(t, cs[k], gs[k])
			}
		}
	}
}

// A cursor goes over more tokens than a row may have, too.
func TestLongCursor(t *testing.T) {
	var l []api.Tok
	for i := range 70000 {
		l = append(l, tok(2, i, i+1))
	}
	c := token.NewCursor(l...)
	for i, want := range l {
		if c.At() != i || c.Left() != len(l)-i || c.Next() != want {
			t.Fatal(i)
		}
	}
	if c.Next() != tok(0, 70000, 70000) || !c.Back(70000) || c.Back(1) || c.Left() != 70000 || c.Next() != l[0] {
		t.Error(c.At(), c.Left())
	}
}

func TestCursorsThatNoCallMade(t *testing.T) {
	var plain token.Cursor
	for _, c := range []*token.Cursor{nil, &plain, new(token.Cursor), {}} {
		for range 3 {
			if c.Peek() != (api.Tok{}) || c.Next() != (api.Tok{}) || c.At() != 0 || c.Left() != 0 || c.Mark() != nil {
				t.Error(c == nil, c.Peek(), c.At(), c.Left(), c.Mark())
			}
			for _, n := range []int{0, 1, -1, math.MinInt, math.MaxInt} {
				if c.Back(n) {
					t.Error("back by", n)
				}
			}
		}
	}
}

// The cursor of no token is one that a call made.
func TestCursorOfNoToken(t *testing.T) {
	for _, c := range []*token.Cursor{token.NewCursor(), token.NewCursor([]api.Tok{}...), token.NewCursor([]api.Tok(nil)...)} {
		for range 3 {
			if c == nil || c.Peek() != (api.Tok{}) || c.Next() != (api.Tok{}) || c.At() != 0 || c.Left() != 0 || !c.Back(0) || c.Back(1) || c.Back(-1) {
				t.Fatal("a cursor of no token")
			}
			c = marked(t, c)
		}
	}
}
