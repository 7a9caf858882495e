package solve_test

import (
	"strconv"
	"strings"
	"testing"

	"quoin/api"
	"quoin/solve"
)

// L1 and L2: what can be done in a state at a kind, and which of it stands.

// moveText is a move in a test's words: of a shift its state is left out, if it is the one to which the state goes on.
func moveText(a api.Auto, s, kind int, m api.Move) string {
	switch m.Do {
	case api.MoveError:
		return "error " + strconv.Itoa(m.N)
	case api.MoveShift:
		if m.N == a.Next[s][kind] {
			return "shift"
		}
		return "another shift"
	case api.MoveReduce:
		return strconv.Itoa(m.N)
	}
	return "accept " + strconv.Itoa(m.N)
}

// cellText is what can be done in a state at a kind, by Moves; what stands, by Solve; `clash`, if it is told as one; `settled`, if it is that.
func cellText(t *testing.T, g api.Plain, a api.Auto, s, kind int) string {
	t.Helper()
	x, clashes := likeWords(t, g, a)
	l, e := solve.Moves(g, a, s, kind)
	if e != api.OK {
		t.Fatal(text(g), s, kind, e)
	}
	var made []string
	for _, m := range l {
		made = append(made, moveText(a, s, kind, m))
	}
	w := strings.Join(made, ", ") + ": " + moveText(a, s, kind, x.Moves[s][kind])
	for _, c := range clashes {
		if c.State == s && c.Kind == kind {
			if c.Won != x.Moves[s][kind] {
				t.Error(text(g), c)
			}
			w += " clash"
			if c.Settled {
				w += " settled"
			}
		}
	}
	return w
}

// cellIs holds the canonical automaton's state behind a row, at a kind.
func cellIs(t *testing.T, g api.Plain, row, kind, want string) {
	t.Helper()
	a := built(t, g)
	if got := cellText(t, g, a, wayTo(g, a, row), symbols(g, kind)[0]); got != want {
		t.Errorf("%s: behind %s at %s: %q, not %q", text(g), row, kind, got, want)
	}
}

func TestOneThing(t *testing.T) {
	g := read("S = a b; S = a A; A = c; error")
	cellIs(t, g, "", "a", "shift: shift")
	cellIs(t, g, "", "b", ": error 0")
	cellIs(t, g, "", "end", ": error 0")
	cellIs(t, g, "", "error", ": error 0")
	cellIs(t, g, "a", "b", "shift: shift")
	cellIs(t, g, "a", "c", "shift: shift")
	cellIs(t, g, "a", "end", ": error 0")
	cellIs(t, g, "a b", "end", "0: 0")
	cellIs(t, g, "a b", "b", ": error 0")
	cellIs(t, g, "a A", "end", "1: 1")
	cellIs(t, g, "a c", "end", "2: 2")
	cellIs(t, g, "S", "end", "accept 0: accept 0")
	cellIs(t, g, "S", "a", ": error 0")
	cellIs(t, g, "S", "error", ": error 0")
	g = read("S = error S; S =; a")
	cellIs(t, g, "", "error", "shift: shift")
	cellIs(t, g, "", "end", "1: 1")
	cellIs(t, g, "error S", "end", "0: 0")
}

// One thing at a kind, another one at the next.
func TestOneThingEach(t *testing.T) {
	g := read("S = A b; A = A c; A =; left b c")
	cellIs(t, g, "", "b", "2: 2")
	cellIs(t, g, "", "c", "2: 2")
	cellIs(t, g, "", "end", ": error 0")
	cellIs(t, g, "A", "c", "shift: shift")
	g = read("S = S a; S = a; left a") // accept, beside a shift at another kind
	cellIs(t, g, "S", "a", "shift: shift")
	cellIs(t, g, "S", "end", "accept 0: accept 0")
	g = read("S = S A a; A =; S = a; left a") // accept, beside a reduction at another kind
	cellIs(t, g, "S", "a", "1: 1")
	cellIs(t, g, "S", "end", "accept 0: accept 0")
}

// Where a grammar has no productions, the start's has the number 0.
func TestStartIsZero(t *testing.T) {
	g := read("S; a")
	cellIs(t, g, "S", "end", "accept 0: accept 0")
	cellIs(t, g, "S", "a", ": error 0")
	cellIs(t, g, "", "end", ": error 0")
	if lines, e := solve.Lines(g, api.Clash{Prods: []int{0}, Shift: -1, Won: api.Move{Do: api.MoveAccept}}); e != api.OK || len(lines) != 1 || lines[0] != "state 0, end: accept: accept" {
		t.Error(lines, e)
	}
}

func TestSeveral(t *testing.T) {
	g := read("S = A; S = a; A = a; S = B; B = a")
	cellIs(t, g, "a", "end", "1, 2, 4: 1 clash")
	g = read("S = B; S = A; A = a; B = a")
	cellIs(t, g, "a", "end", "2, 3: 2 clash")
	g = read("S = a b; S = A b; A = a")
	cellIs(t, g, "a", "b", "shift, 2: shift clash")
	g = read("S = a b; S = B b; S = A b; A = a; B = a")
	cellIs(t, g, "a", "b", "shift, 3, 4: shift clash")
	g = read("S = a; S = a") // alike in all
	cellIs(t, g, "a", "end", "0, 1: 0 clash")
	g = read("S =; S =; a")
	cellIs(t, g, "", "end", "0, 1: 0 clash")
	g = read("S =; S = A; A =; S = a; S = B a; B =")
	cellIs(t, g, "", "end", "0, 2: 0 clash")
	cellIs(t, g, "", "a", "shift, 5: shift clash")
}

// Levels turn nothing where several reductions clash alone, and where there is one thing.
func TestSeveralWithLevels(t *testing.T) {
	for _, assoc := range []string{"left", "right", "none"} {
		g := read("S = b; S = A; A = a; S = B; B = a; " + assoc + " b; " + assoc + " a")
		cellIs(t, g, "a", "end", "2, 4: 2 clash")
		cellIs(t, g, "b", "end", "0: 0")
		g.Prods[2].Level, g.Prods[4].Level = 1, 9
		cellIs(t, g, "a", "end", "2, 4: 2 clash")
		g = read("S = A b; A = B; B = a; A = a; " + assoc + " a; " + assoc + " b")
		cellIs(t, g, "a", "b", "2, 3: 2 clash")
		g.Prods[2].Level, g.Prods[3].Level = 0, 2
		cellIs(t, g, "a", "b", "2, 3: 2 clash")
		cellIs(t, g, "A", "b", "shift: shift")
	}
}

// Accept beside reductions: a reduction stands, as the start's production has the greatest number.
func TestAcceptBeside(t *testing.T) {
	cellIs(t, read("S = S; S = a"), "S", "end", "0, accept 0: 0 clash")
	cellIs(t, read("S = A; A = S; A = a"), "S", "end", "1, accept 0: 1 clash")
	cellIs(t, read("S = a; A = S; B = S; S = B; S = A; left a"), "S", "end", "1, 2, accept 0: 1 clash")
	cellIs(t, read("S = S A; A =; A = a; S = b; left a"), "S", "end", "1, accept 0: 1 clash")
	cellIs(t, read("S = S A; A =; A = a; S = b; left a"), "S", "a", "shift, 1: shift clash")
	g := read("S = S; S = a; left a")
	g.Prods[0].Level = 1
	cellIs(t, g, "S", "end", "0, accept 0: 0 clash")
	a := built(t, g)
	if _, l, e := solve.Solve(g, a); e != api.OK || told(l) != told([]api.Clash{{State: wayTo(g, a, "S"), Shift: -1, Prods: []int{0, 2}, Won: api.Move{Do: api.MoveReduce}}}) {
		t.Error(l, e)
	}
}

// level is a kind's or a production's, for the tests below.
type level = int

// ofLevels is E = E o E, n, with levels of the kind o, and of its production.
func ofLevels(kind, prod level, assoc int) api.Plain {
	g := read("E = E o E; E = n")
	g.Prods[0].Level = prod
	if kind > 0 {
		g.Precs[symbols(g, "o")[0]] = api.Prec{Level: kind, Assoc: assoc}
	}
	return g
}

func TestPrecedence(t *testing.T) {
	for _, c := range []struct {
		kind, prod level
		assoc      int
		want       string
	}{
		{0, 0, api.AssocNone, "shift, 0: shift clash"},
		{0, 1, api.AssocNone, "shift, 0: shift clash"},
		{0, 7, api.AssocNone, "shift, 0: shift clash"},
		{1, 0, api.AssocLeft, "shift, 0: shift clash"},
		{1, 0, api.AssocRight, "shift, 0: shift clash"},
		{1, 0, api.AssocNot, "shift, 0: shift clash"},
		{1, 1, api.AssocLeft, "shift, 0: 0 clash settled"},
		{1, 1, api.AssocRight, "shift, 0: shift clash settled"},
		{1, 1, api.AssocNot, "shift, 0: error 0 clash settled"},
		{5, 5, api.AssocLeft, "shift, 0: 0 clash settled"},
		{5, 5, api.AssocRight, "shift, 0: shift clash settled"},
		{5, 5, api.AssocNot, "shift, 0: error 0 clash settled"},
		{2, 1, api.AssocLeft, "shift, 0: shift clash settled"},
		{2, 1, api.AssocRight, "shift, 0: shift clash settled"},
		{2, 1, api.AssocNot, "shift, 0: shift clash settled"},
		{1, 2, api.AssocLeft, "shift, 0: 0 clash settled"},
		{1, 2, api.AssocRight, "shift, 0: 0 clash settled"},
		{1, 2, api.AssocNot, "shift, 0: 0 clash settled"},
		{1<<62 + 1, 1 << 62, api.AssocLeft, "shift, 0: shift clash settled"},
		{1 << 62, 1<<62 + 1, api.AssocRight, "shift, 0: 0 clash settled"},
	} {
		cellIs(t, ofLevels(c.kind, c.prod, c.assoc), "E o E", "o", c.want)
		cellIs(t, ofLevels(c.kind, c.prod, c.assoc), "E o E", "end", "0: 0")
		cellIs(t, ofLevels(c.kind, c.prod, c.assoc), "E", "o", "shift: shift")
	}
}

// A kind's Assoc alone is asked, not that of a kind in the production.
func TestAssocOfTheKind(t *testing.T) {
	g := read("E = E p E; E = E q E; E = E r E; E = n; left p; right q; none r")
	for prod := range 3 {
		g.Prods[prod].Level = 2
	}
	for kind := 3; kind <= 5; kind++ {
		g.Precs[kind].Level = 2
	}
	for prod, row := range []string{"E p E", "E q E", "E r E"} {
		n := strconv.Itoa(prod)
		cellIs(t, g, row, "p", "shift, "+n+": "+n+" clash settled")
		cellIs(t, g, row, "q", "shift, "+n+": shift clash settled")
		cellIs(t, g, row, "r", "shift, "+n+": error 0 clash settled")
	}
}

// ofTwo is E = E o E twice, n, with levels of the kind o, and of its productions.
func ofTwo(kind, one, other level, assoc int) api.Plain {
	g := ofLevels(kind, one, assoc)
	g.Prods = append(g.Prods, g.Prods[0])
	g.Prods[2].Level = other
	return g
}

// A shift and several productions: the least stands for all, by its Level; and yet it is not settled.
func TestSeveralAndShift(t *testing.T) {
	for _, c := range []struct {
		kind, one, other level
		assoc            int
		want             string
	}{
		{0, 0, 0, api.AssocNone, "shift, 0, 2: shift clash"},
		{0, 3, 3, api.AssocNone, "shift, 0, 2: shift clash"},
		{2, 0, 0, api.AssocLeft, "shift, 0, 2: shift clash"},
		{2, 0, 3, api.AssocLeft, "shift, 0, 2: shift clash"},
		{2, 0, 2, api.AssocLeft, "shift, 0, 2: shift clash"},
		{2, 3, 0, api.AssocRight, "shift, 0, 2: 0 clash"},
		{2, 3, 1, api.AssocRight, "shift, 0, 2: 0 clash"},
		{2, 3, 3, api.AssocNot, "shift, 0, 2: 0 clash"},
		{2, 1, 3, api.AssocLeft, "shift, 0, 2: shift clash"},
		{2, 1, 0, api.AssocLeft, "shift, 0, 2: shift clash"},
		{2, 2, 2, api.AssocLeft, "shift, 0, 2: 0 clash"},
		{2, 2, 1, api.AssocRight, "shift, 0, 2: shift clash"},
		{2, 2, 3, api.AssocNot, "shift, 0, 2: error 0 clash"},
		{2, 2, 0, api.AssocNot, "shift, 0, 2: error 0 clash"},
	} {
		cellIs(t, ofTwo(c.kind, c.one, c.other, c.assoc), "E o E", "o", c.want)
	}
}

// The start's item may have other Looks: nothing is accepted but at the end.
func TestStartWithOtherLooks(t *testing.T) {
	g := read("S = S a; S = a; left a")
	m := newMaker(900)
	a := m.from(g, startItem(g), api.Item{Prod: 2, Look: 1}, api.Item{Prod: 2, Look: 2})
	s, end, errs, kind := wayTo(g, a, "S"), 0, 1, 2
	if len(a.States[s]) != 6 {
		t.Fatal("the test is wrong:", a.States[s])
	}
	for at, want := range map[int]string{end: "accept 0: accept 0", errs: ": error 0", kind: "shift: shift"} {
		if got := cellText(t, g, a, s, at); got != want {
			t.Error(at, got)
		}
	}
	a.States = append(a.States, state([3]int{2, 1, 1}, [3]int{2, 1, 2}))
	a.Next = append(a.Next, []int{-1, -1, -1, -1})
	for kind := range 3 {
		if got := cellText(t, g, a, len(a.States)-1, kind); got != ": error 0" {
			t.Error(kind, got)
		}
	}
}

// Items that are whole, of a production without symbols, too, at their own Looks alone.
func TestLooksApart(t *testing.T) {
	g := read("S = A a; S = B b; A =; B =; S = A")
	cellIs(t, g, "", "a", "2: 2")
	cellIs(t, g, "", "b", "3: 3")
	cellIs(t, g, "", "end", "2: 2")
	cellIs(t, g, "A", "end", "4: 4")
	cellIs(t, g, "A", "a", "shift: shift")
}
