package token_test

import (
	"math"
	"math/rand"
	"slices"
	"strings"
	"testing"

	"quoin/api"
	"quoin/token"
)

// P7.1: whether a row may be

func tok(kind, from, to int) api.Tok { return api.Tok{Kind: kind, From: from, To: to} }

func toks(l ...api.Tok) []api.Tok { return l }

func testCheck(t *testing.T, names []string, src string, l []api.Tok, n int, e api.Errno) {
	t.Helper()
	if wantN, want := checked(names, src, l); wantN != n || want != e {
		t.Fatal("the words say otherwise", wantN, want)
	}
	if gotN, got := token.Check(names, src, l); gotN != n || got != e {
		t.Errorf("Check(%.100q, %.100q, %d tokens) = %d, %v, not %d, %v", names, src, len(l), gotN, got, n, e)
	}
}

func TestCheck(t *testing.T) {
	names, src := kinds("num", "id"), "ab\u00e9d"
	for _, l := range [][]api.Tok{
		nil, {}, toks(tok(2, 0, 0)), toks(tok(2, 0, 5)), toks(tok(3, 5, 5)), toks(tok(3, 0, 3), tok(2, 3, 4)), toks(tok(3, 0, 3), tok(2, 4, 5)),
		toks(tok(2, 0, 0), tok(2, 0, 0), tok(2, 0, 1), tok(2, 1, 1), tok(3, 1, 5), tok(3, 5, 5), tok(3, 5, 5)),
	} {
		testCheck(t, names, src, l, 0, api.OK)
	}
	wrong := toks(
		tok(0, 1, 2), tok(1, 1, 2), tok(-1, 1, 2), tok(4, 1, 2), tok(5, 1, 2), tok(1024, 1, 2), tok(math.MinInt, 1, 2), tok(math.MaxInt, 1, 2),
		tok(2, -1, 2), tok(2, -1, -1), tok(2, math.MinInt, 2), tok(2, math.MinInt, math.MaxInt), tok(2, math.MinInt, math.MinInt),
		tok(2, 2, 1), tok(2, 5, 4), tok(2, 5, 0), tok(2, 6, 5), tok(2, math.MaxInt, 5), tok(2, math.MaxInt, math.MinInt),
		tok(2, 1, 6), tok(2, 5, 6), tok(2, 6, 6), tok(2, 1, math.MaxInt), tok(2, math.MaxInt, math.MaxInt), tok(2, 1, -1),
	)
	for _, x := range wrong {
		testCheck(t, names, src, toks(x), 0, api.ErrRow)
		testCheck(t, names, src, toks(tok(2, 0, 1), x), 1, api.ErrRow)
		testCheck(t, names, src, toks(x, tok(2, 0, 1)), 0, api.ErrRow)
		testCheck(t, names, src, toks(tok(2, 0, 0), tok(3, 0, 1), x, tok(2, 2, 2)), 2, api.ErrRow)
		for _, y := range wrong {
			testCheck(t, names, src, toks(tok(2, 0, 1), x, tok(2, 2, 2), y), 1, api.ErrRow)
		}
	}
}

// From just at the To ahead, below it and behind it.
func TestCheckOfNeighbours(t *testing.T) {
	names, src := kinds("a"), "abcdef"
	testCheck(t, names, src, toks(tok(2, 1, 3), tok(2, 3, 4)), 0, api.OK)
	testCheck(t, names, src, toks(tok(2, 1, 3), tok(2, 4, 4)), 0, api.OK)
	testCheck(t, names, src, toks(tok(2, 1, 3), tok(2, 2, 4)), 1, api.ErrRow)
	testCheck(t, names, src, toks(tok(2, 1, 3), tok(2, 1, 3)), 1, api.ErrRow)
	testCheck(t, names, src, toks(tok(2, 1, 3), tok(2, 0, 0)), 1, api.ErrRow)
	testCheck(t, names, src, toks(tok(2, 1, 3), tok(2, 2, 2)), 1, api.ErrRow)
	testCheck(t, names, src, toks(tok(2, 3, 3), tok(2, 0, 3)), 1, api.ErrRow)
	testCheck(t, names, src, toks(tok(2, 0, 1), tok(2, 3, 4), tok(2, 1, 3)), 2, api.ErrRow)
	testCheck(t, names, src, toks(tok(2, 0, 5), tok(2, 5, 5), tok(2, 4, 5), tok(2, 3, 5)), 2, api.ErrRow)
}

func TestCheckOfKinds(t *testing.T) {
	for _, names := range [][]string{nil, {"end"}, {"error", "end"}, kinds("9x"), kinds("a", "a"), many(1025)} {
		for _, l := range [][]api.Tok{nil, toks(tok(2, 0, 1)), toks(tok(2, 0, 1), tok(-1, 5, 3)), make([]api.Tok, 65537)} {
			testCheck(t, names, "ab", l, 0, api.ErrKind)
		}
	}
	testCheck(t, kinds(), "ab", nil, 0, api.OK)
	testCheck(t, kinds(), "ab", toks(tok(2, 0, 1)), 0, api.ErrRow)
	testCheck(t, many(1024), "ab", toks(tok(2, 0, 1), tok(1023, 1, 2)), 0, api.OK)
	testCheck(t, many(1024), "ab", toks(tok(2, 0, 1), tok(1024, 1, 2)), 1, api.ErrRow)
	testCheck(t, kinds("a"), "", nil, 0, api.OK)
	testCheck(t, kinds("a"), "", toks(tok(2, 0, 0)), 0, api.OK)
	testCheck(t, kinds("a"), "", toks(tok(2, 0, 1)), 0, api.ErrRow)
	testCheck(t, kinds("a"), "\xff\xc3", toks(tok(2, 0, 1), tok(2, 1, 2)), 0, api.OK)
}

func TestCheckOfManyTokens(t *testing.T) {
	names, src := kinds("a"), strings.Repeat("x", 65537)
	var l []api.Tok
	for i := range 65537 {
		l = append(l, tok(2, i, i+1))
	}
	testCheck(t, names, src, l[:65535], 0, api.OK)
	testCheck(t, names, src, l[:65536], 0, api.OK)
	testCheck(t, names, src, l, 65536, api.ErrRow)
	testCheck(t, names, src, append(l, tok(2, 65537, 65537), tok(2, 65537, 65537)), 65536, api.ErrRow)
	for _, at := range []int{0, 7, 65535, 65536} {
		m := slices.Clone(l)
		m[at].Kind = 1
		testCheck(t, names, src, m, 65536, api.ErrRow)
		if at < 65536 {
			testCheck(t, names, src, m[:65536], at, api.ErrRow)
		}
	}
}

func TestCheckOfChance(t *testing.T) {
	chance := rand.New(rand.NewSource(71))
	for range 200000 {
		src := "abcdefgh"[:chance.Intn(9)]
		names := many(2 + chance.Intn(4))
		var l []api.Tok
		reached := 0
		for range chance.Intn(6) {
			one := tok(2+chance.Intn(len(names)-1), reached+chance.Intn(2), reached+chance.Intn(4))
			switch chance.Intn(12) {
			case 0:
				one.Kind = chance.Intn(8) - 2
			case 1:
				one.From = chance.Intn(12) - 2
			case 2:
				one.To = chance.Intn(12) - 2
			}
			reached = one.To
			l = append(l, one)
		}
		n, e := checked(names, src, l)
		testCheck(t, names, src, l, n, e)
	}
}
