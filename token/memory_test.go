package token_test

import (
	"slices"
	"testing"

	"quoin/api"
	"quoin/token"
)

// DOC.md's R4: what is handed in is not changed and not kept, what is answered is new memory

// roomy is a list with room behind its end in which marks stand.
func roomy[T any](l []T, marks ...T) []T {
	return append(slices.Clone(l), marks...)[:len(l)]
}

// whole is a copy of a list and the room behind it.
func whole[T any](l []T) []T { return slices.Clone(l[:cap(l)]) }

// fill overwrites a list, and the room behind it.
func fill[T any](l []T, x T) {
	for i := range l[:cap(l)] {
		l[:cap(l)][i] = x
	}
}

func TestWhatIsHandedInIsNotChanged(t *testing.T) {
	for _, more := range [][]string{nil, {"num"}, {"b", "a", "c"}, {"a", "a"}, {"9x"}} {
		for _, l := range append(rows(), toks(tok(2, 0, 1), tok(2, 1, 2)), toks(tok(2, 1, 2), tok(2, 0, 1))) {
			names, some := roomy(kinds(more...), "z", "error", "end"), roomy([]int{3, 2, 3, 0}, 9, -1)
			l := roomy(l, tok(7, 8, 9), tok(1, 1, 1))
			keptNames, keptToks, keptKinds := whole(names), whole(l), whole(some)
			token.Kinds(names...)
			token.Find(names, "error")
			token.Check(names, "12", l)
			lines, _ := token.Lines(names, "12", l)
			token.Read(names, "12", lines)
			token.Read(names, "12", lines+"?")
			token.Only(l, some...)
			token.Row(l)
			c := token.NewCursor(l...)
			for range len(l) + 2 {
				c.Mark().Next()
				c.Next()
			}
			c.Back(1)
			if !slices.Equal(whole(names), keptNames) || !slices.Equal(whole(l), keptToks) || !slices.Equal(whole(some), keptKinds) {
				t.Fatal("an argument is changed", names, l, some)
			}
		}
	}
}

func TestTokensHandedInAreNotKept(t *testing.T) {
	for _, l := range rows() {
		mine := roomy(l, tok(7, 8, 9), tok(1, 1, 1))
		c := token.NewCursor(mine...)
		m := marked(t, c)
		fill(mine, tok(99, 98, 97))
		for _, c := range []*token.Cursor{c, m} {
			g := &going{l: l}
			stands(t, c, g)
			for range len(l) + 2 {
				moved(t, c, g)
			}
		}
	}
}

// What is told is overwritten: what was told ahead and what is told behind stays.
func TestAnswersAreNew(t *testing.T) {
	names, src := kinds("a", "b"), "xyz"
	l := toks(tok(2, 0, 1), tok(3, 1, 1), tok(2, 1, 3))
	kept := slices.Clone(l)
	lines, _ := token.Lines(names, src, l)
	first, _ := token.Read(names, src, lines)
	second, _ := token.Read(names, src, lines)
	fill(first, tok(9, 9, 9))
	third, _ := token.Read(names, src, lines)
	if !slices.Equal(second, kept) || !slices.Equal(third, kept) {
		t.Error("rows that are read share memory")
	}
	for _, some := range [][]int{{2, 3}, {2}, {3}, {2, 2, 3, 4}} {
		want := slices.Clone(token.Only(l, some...))
		one, other := token.Only(l, some...), token.Only(l, some...)
		fill(one, tok(9, 9, 9))
		if !slices.Equal(other, want) || !slices.Equal(l, kept) {
			t.Error("tokens of some kinds share memory")
		}
	}
	one, other := token.Row(l), token.Row(l)
	fill(one, 9)
	if !slices.Equal(other, []int{2, 3, 2}) || !slices.Equal(token.Row(l), other) {
		t.Error("rows of kinds share memory")
	}
}

// What is told of a list stays as it was when the list changes.
func TestAnswersStay(t *testing.T) {
	l, some, names := toks(tok(2, 0, 1), tok(3, 1, 2)), []int{2, 3}, kinds("a", "b")
	only, row := token.Only(l, some...), token.Row(l)
	lines, _ := token.Lines(names, "xy", l)
	read, _ := token.Read(names, "xy", lines)
	fill(l, tok(9, 9, 9))
	fill(some, 9)
	fill(names, "c")
	want := toks(tok(2, 0, 1), tok(3, 1, 2))
	if !slices.Equal(only, want) || !slices.Equal(row, []int{2, 3}) || lines != "a 0 1 \"x\"\nb 1 2 \"y\"\n" || !slices.Equal(read, want) {
		t.Error(only, row, lines, read)
	}
}

// Two cursors over one list know nothing of one another.
func TestCursorsOverOneList(t *testing.T) {
	l := toks(tok(2, 0, 1), tok(3, 1, 2))
	c, d := token.NewCursor(l...), token.NewCursor(l...)
	c.Next()
	c.Next()
	stands(t, d, &going{l: l})
	d.Next()
	stands(t, c, &going{l: l, at: 2})
	stands(t, d, &going{l: l, at: 1})
	if api.KindEnd != c.Next().Kind {
		t.Error("no end")
	}
}
