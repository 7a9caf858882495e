package runes_test

import (
	"slices"
	"testing"

	"quoin/api"
	"quoin/runes"
)

// R4: what is handed in is not changed and not kept, what is answered is new memory

// marked is a copy of l with room behind it in which marks stand.
func marked(l []api.Range) []api.Range {
	long := append(slices.Clone(l), span(7777, 7777), span(-1, -1), span(8888, 8888))
	return long[:len(l)]
}

// whole is l with the room behind it.
func whole(l []api.Range) []api.Range { return l[:cap(l)] }

// spoil overwrites an answer and the room behind it.
func spoil(l []api.Range) {
	for i := range whole(l) {
		whole(l)[i] = span(-9, -9)
	}
}

// answers are all lists of ranges that calls answer of two sets.
func answers(t *testing.T, a, b []api.Range) [][]api.Range {
	var all [][]api.Range
	take := func(l []api.Range, e api.Errno) {
		t.Helper()
		if e != api.OK {
			t.Error(e)
		}
		all = append(all, l)
	}
	take(runes.Of(a...))
	take(runes.Of(a[:0]...))
	take(runes.Union(a))
	take(runes.Union(a, b))
	take(runes.Union(b, a))
	take(runes.Union(a, a))
	take(runes.Union(nil, a))
	take(runes.Union(a[:0], b[:0]))
	take(runes.Meet(a))
	take(runes.Meet(a, b))
	take(runes.Meet(a, a))
	take(runes.Meet(a, set(span(0, 0x10FFFF))))
	take(runes.Meet())
	take(runes.Minus(a, b))
	take(runes.Minus(a, nil))
	take(runes.Minus(a, b[:0]))
	take(runes.Minus(a[:0], b))
	take(runes.Not(a))
	take(runes.Not(a[:0]))
	return all
}

func TestRangesAreNew(t *testing.T) {
	for _, a := range samples() {
		for _, b := range samples()[:12] {
			x, y := marked(a), marked(b)
			keptX, keptY := slices.Clone(whole(x)), slices.Clone(whole(y))
			first := answers(t, x, y)
			var kept [][]api.Range
			for _, l := range first {
				kept = append(kept, slices.Clone(l))
			}
			for i, l := range first {
				spoil(l)
				for j := i + 1; j < len(first); j++ {
					if !same(first[j], kept[j]) {
						t.Fatal("two answers share memory", i, j)
					}
				}
			}
			if !same(whole(x), keptX) || !same(whole(y), keptY) {
				t.Fatal("an argument is changed, or shared", a, b)
			}
			for i, l := range answers(t, x, y) {
				if !same(l, kept[i]) {
					t.Fatal("an answer hangs on another", i)
				}
			}
		}
	}
}

func TestOthersLeaveTheirArguments(t *testing.T) {
	a, b := marked(set(span(97, 99), span(120, 122))), marked(set(span(98, 98)))
	keptA, keptB := slices.Clone(whole(a)), slices.Clone(whole(b))
	runes.Check(a)
	runes.Has(a, 98)
	runes.Compare(a, b)
	runes.Size(a)
	for range runes.All(a) {
	}
	cuts, _ := runes.Cuts(a, b)
	runes.Text(a)
	wrong := marked(set(span(99, 99), span(97, 97), span(98, 98)))
	keptWrong := slices.Clone(whole(wrong))
	runes.Of(wrong...)
	runes.Check(wrong)
	runes.Union(wrong)
	runes.Has(wrong, 97)
	if !same(whole(a), keptA) || !same(whole(b), keptB) || !same(whole(wrong), keptWrong) {
		t.Error("an argument is changed")
	}
	sets := [][]api.Range{b, a, nil}
	runes.Union(sets...)
	runes.Meet(sets...)
	runes.Cuts(sets...)
	if !same(sets[0], keptB[:1]) || !same(sets[1], keptA[:2]) || sets[2] != nil {
		t.Error("the list of sets is changed")
	}
	row := append(slices.Clone(cuts), 5, 4)[:len(cuts)]
	keptRow := slices.Clone(row[:cap(row)])
	runes.Class(row, 98)
	if !slices.Equal(row[:cap(row)], keptRow) {
		t.Error("the cuts are changed")
	}
}

func TestCutsAreNew(t *testing.T) {
	a := set(span(97, 99))
	first, _ := runes.Cuts(a)
	clear(first[:cap(first)])
	if second, e := runes.Cuts(a); e != api.OK || !slices.Equal(second, []rune{0, 97, 100}) {
		t.Error(second, e)
	}
	none, _ := runes.Cuts()
	none[0] = 5
	if again, e := runes.Cuts(); e != api.OK || !slices.Equal(again, []rune{0}) {
		t.Error(again, e)
	}
}

func TestParsedSetsAreNew(t *testing.T) {
	for _, text := range []string{"[a-c x]", "[^a]", "[^]"} {
		first, f := runes.Parse(text)
		kept := slices.Clone(first)
		spoil(first)
		if second, g := runes.Parse(text); f != g || !same(second, kept) {
			t.Error(text, second, g)
		}
	}
}

func TestAllTellsWhatThereWas(t *testing.T) {
	s := set(span(97, 98), span(100, 100))
	all := runes.All(s)
	s[0], s[1] = span(120, 122), span(0, 0x10FFFF)
	if l := slices.Collect(all); string(l) != "abd" {
		t.Error(l)
	}
	none := set(span(99, 98))
	all = runes.All(none)
	none[0] = span(97, 98)
	for r := range all {
		t.Error(r)
	}
}
