package token_test

import (
	"math"
	"strings"
	"testing"

	"quoin/api"
	"quoin/token"
)

// P7.2: a row's lines

func testLines(t *testing.T, names []string, src string, l []api.Tok, want string, e api.Errno) {
	t.Helper()
	if lines, got := token.Lines(names, src, l); lines != want || got != e {
		t.Errorf("Lines(%.100q, %.100q, %d tokens) = %.200q, %v, not %.200q, %v", names, src, len(l), lines, got, want, e)
	}
}

func TestLines(t *testing.T) {
	names := kinds("num", "id")
	for _, x := range []struct {
		src  string
		l    []api.Tok
		want string
	}{
		{"", nil, ""}, {"ab", nil, ""}, {"ab", toks(), ""},
		{"12", toks(tok(2, 0, 2)), "num 0 2 \"12\"\n"},
		{"12 x", toks(tok(2, 0, 2), tok(3, 3, 4)), "num 0 2 \"12\"\nid 3 4 \"x\"\n"},
		{"", toks(tok(3, 0, 0)), "id 0 0 \"\"\n"},
		{"ab", toks(tok(3, 0, 0), tok(3, 1, 1), tok(2, 1, 2), tok(2, 2, 2)), "id 0 0 \"\"\nid 1 1 \"\"\nnum 1 2 \"b\"\nnum 2 2 \"\"\n"},
		{"a b", toks(tok(3, 0, 3)), "id 0 3 \"a b\"\n"},
		{"  ", toks(tok(3, 0, 2)), "id 0 2 \"  \"\n"},
		{"\"\\\n\t\r", toks(tok(2, 0, 1), tok(2, 1, 2), tok(2, 2, 3), tok(2, 3, 4), tok(2, 4, 5)), `num 0 1 "\""` + "\n" + `num 1 2 "\\"` + "\n" + `num 2 3 "\n"` + "\n" + `num 3 4 "\t"` + "\n" + `num 4 5 "\r"` + "\n"},
		{"\x00\x7f\xff", toks(tok(2, 0, 3)), `num 0 3 "\x00\x7f\xff"` + "\n"},
		{"\u00e9\u20ac", toks(tok(2, 0, 2), tok(3, 2, 5)), "num 0 2 \"\u00e9\"\nid 2 5 \"\u20ac\"\n"},
		{"\u00e9\u20ac", toks(tok(2, 0, 1), tok(3, 1, 5)), `num 0 1 "\xc3"` + "\nid 1 5 \"" + `\xa9` + "\u20ac\"\n"},
		{strings.Repeat(" ", 99) + "xy", toks(tok(2, 9, 10), tok(3, 99, 101)), "num 9 10 \" \"\nid 99 101 \"xy\"\n"},
	} {
		testLines(t, names, x.src, x.l, x.want, api.OK)
		if lines, e := lined(names, x.src, x.l); lines != x.want || e != api.OK {
			t.Errorf("the words say otherwise: %q", lines)
		}
	}
	testLines(t, many(1024), "a", toks(tok(1023, 0, 1)), "k1023 0 1 \"a\"\n", api.OK)
	testLines(t, kinds(strings.Repeat("n", 64)), "a", toks(tok(2, 0, 1)), strings.Repeat("n", 64)+" 0 1 \"a\"\n", api.OK)
}

// Check's error, and nothing beside it.
func TestLinesRefuses(t *testing.T) {
	names := kinds("num")
	testLines(t, nil, "12", toks(tok(2, 0, 2)), "", api.ErrKind)
	testLines(t, kinds("9x"), "12", nil, "", api.ErrKind)
	testLines(t, kinds("9x"), "12", toks(tok(7, 3, 2)), "", api.ErrKind)
	for _, x := range toks(tok(0, 0, 1), tok(1, 0, 1), tok(3, 0, 1), tok(-1, 0, 1), tok(2, -1, 1), tok(2, 2, 1), tok(2, 0, 3), tok(2, 3, 3), tok(2, math.MinInt, math.MaxInt), tok(2, math.MaxInt, math.MinInt)) {
		testLines(t, names, "12", toks(x), "", api.ErrRow)
		testLines(t, names, "12", toks(tok(2, 0, 0), x), "", api.ErrRow)
	}
	testLines(t, names, "12", toks(tok(2, 0, 2), tok(2, 1, 2)), "", api.ErrRow)
	testLines(t, names, "12", make([]api.Tok, 65537), "", api.ErrRow)
}

// A token of MaxQuote bytes, and one more; what is wrong with a row comes ahead of that.
func TestLinesOfLongTokens(t *testing.T) {
	names := kinds("num")
	for _, unit := range []string{"a", "\n", "\xff"} {
		src := strings.Repeat(unit, 9000)
		most := toks(tok(2, 1, 4097), tok(2, 4097, 8193), tok(2, 8193, 9000))
		want, _ := lined(names, src, most)
		testLines(t, names, src, most, want, api.OK)
		testLines(t, names, src, toks(tok(2, 0, 4097)), "", api.ErrLong)
		testLines(t, names, src, toks(tok(2, 0, 9000)), "", api.ErrLong)
		testLines(t, names, src, toks(tok(2, 0, 1), tok(2, 1, 4098), tok(2, 5000, 5001)), "", api.ErrLong)
		testLines(t, names, src, toks(tok(2, 0, 4097), tok(1, 5000, 5001)), "", api.ErrRow)
		testLines(t, names, src, toks(tok(2, 0, 4097), tok(2, 4097, 9001)), "", api.ErrRow)
		testLines(t, names, src, toks(tok(2, 0, 4097), tok(2, 4096, 5000)), "", api.ErrRow)
		testLines(t, kinds("-"), src, toks(tok(2, 0, 4097)), "", api.ErrKind)
	}
	src := strings.Repeat("\u00e9", 2049)
	testLines(t, names, src, toks(tok(2, 0, 4096)), "num 0 4096 \""+src[:4096]+"\"\n", api.OK)
	testLines(t, names, src, toks(tok(2, 0, 4097)), "", api.ErrLong)
}

func TestLinesOfManyTokens(t *testing.T) {
	src := strings.Repeat("x", 65536)
	var l []api.Tok
	for i := range 65536 {
		l = append(l, tok(2, i, i+1))
	}
	lines, e := token.Lines(kinds("a"), src, l)
	if e != api.OK || strings.Count(lines, "\n") != 65536 || !strings.HasPrefix(lines, "a 0 1 \"x\"\na 1 2 \"x\"\n") || !strings.HasSuffix(lines, "\na 65535 65536 \"x\"\n") {
		t.Error(e, len(lines))
	}
	testLines(t, kinds("a"), src, append(l, tok(2, 65536, 65536)), "", api.ErrRow)
}
