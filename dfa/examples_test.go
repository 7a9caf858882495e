package dfa_test

import (
	"slices"
	"testing"

	"quoin/api"
	"quoin/dfa"
)

// The chapter's examples.

func TestExampleOfBuild(t *testing.T) {
	d := built(t, parse(t, `("a" | "b")* "abb"`))
	want := auto([]rune{0, 'a', 'b', 'c'},
		[]int{-1, -1, 1, 0, -1},
		[]int{-1, -1, 1, 2, -1},
		[]int{-1, -1, 1, 3, -1},
		[]int{0, -1, 1, 0, -1})
	if !same(d, want) {
		t.Error(d)
	}
	d = built(t, parsed(t, `"a"`, `"a"*`)...)
	for text, want := range map[string]int{"a": 0, "": 1, "aa": 1, "aaa": 1, "b": -1, "ab": -1} {
		if n, e := dfa.Accept(d, []rune(text)...); n != want || e != api.OK {
			t.Error(text, n, e)
		}
	}
	if d := built(t, api.Regex{Kind: api.ReNone}); !same(d, auto([]rune{0}, []int{-1, -1})) {
		t.Error(d)
	}
}

func TestExampleOfTexts(t *testing.T) {
	text, ok, e := dfa.Apart(built(t, parse(t, `"a"*`)), built(t, parse(t, `"a"* | "b"`)))
	if string(text) != "b" || !ok || e != api.OK {
		t.Error(text, ok, e)
	}
	text, ok, e = dfa.Witness(built(t, parsed(t, `"a"`, `"a" | "b"`)...), 1)
	if string(text) != "b" || !ok || e != api.OK {
		t.Error(text, ok, e)
	}
	d := built(t, parsed(t, `"ab"`, `"a"`)...)
	if n, rule, e := dfa.Longest(d, 'a', 'b', 'a'); n != 2 || rule != 0 || e != api.OK {
		t.Error(n, rule, e)
	}
	if n, rule, e := dfa.Longest(d, 'c'); n != 0 || rule != -1 || e != api.OK {
		t.Error(n, rule, e)
	}
	if !slices.Equal(d.Lows, []rune{0, 'a', 'b', 'c'}) {
		t.Error(d)
	}
}
