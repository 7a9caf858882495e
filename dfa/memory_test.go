package dfa_test

import (
	"math/rand"
	"slices"
	"testing"

	"quoin/api"
	"quoin/dfa"
)

// DOC.md's R4: what is handed in is not changed and not kept, what is answered is new memory

// roomy is a list with room behind its end in which marks stand.
func roomy[T any](l []T, marks ...T) []T {
	return append(slices.Clone(l), marks...)[:len(l)]
}

// marked is an automaton with room behind each list.
func marked(d api.Dfa) api.Dfa {
	m := api.Dfa{Lows: roomy(d.Lows, -7, 3), Rule: roomy(d.Rule, -7, 3)}
	for _, row := range d.Next {
		m.Next = append(m.Next, roomy(row, -7, 3))
	}
	m.Next = roomy(m.Next, []int{-7}, []int{3})
	return m
}

// whole is an automaton with the room behind its lists.
func whole(d api.Dfa) api.Dfa {
	w := api.Dfa{Lows: slices.Clone(d.Lows[:cap(d.Lows)]), Rule: slices.Clone(d.Rule[:cap(d.Rule)])}
	for _, row := range d.Next[:cap(d.Next)] {
		w.Next = append(w.Next, slices.Clone(row[:cap(row)]))
	}
	return w
}

// markedRegex is an expression with room behind each list.
func markedRegex(r api.Regex) api.Regex {
	m := api.Regex{Kind: r.Kind, Set: roomy(r.Set, api.Range{Lo: -7, Hi: 3})}
	for _, k := range r.Kids {
		m.Kids = append(m.Kids, markedRegex(k))
	}
	m.Kids = roomy(m.Kids, api.Regex{Kind: -7})
	return m
}

// wholeRegex is an expression with the room behind its lists.
func wholeRegex(r api.Regex) api.Regex {
	w := api.Regex{Kind: r.Kind, Set: slices.Clone(r.Set[:cap(r.Set)])}
	for _, k := range r.Kids[:cap(r.Kids)] {
		w.Kids = append(w.Kids, wholeRegex(k))
	}
	return w
}

func sameRegex(a, b api.Regex) bool {
	return a.Kind == b.Kind && slices.Equal(a.Set, b.Set) && slices.EqualFunc(a.Kids, b.Kids, sameRegex)
}

// fill overwrites a list, and the room behind it.
func fill[T any](l []T, x T) {
	for i := range l[:cap(l)] {
		l[:cap(l)][i] = x
	}
}

// spoilOneByOne overwrites the lists of an automaton; after each it asks whether the others are what they were.
func spoilOneByOne(t *testing.T, d api.Dfa) {
	t.Helper()
	kept := copied(d)
	fill(d.Lows, -9)
	if !slices.Equal(d.Rule, kept.Rule) || !slices.EqualFunc(d.Next, kept.Next, slices.Equal) {
		t.Fatal("the classes share memory")
	}
	fill(d.Rule, -9)
	if !slices.EqualFunc(d.Next, kept.Next, slices.Equal) {
		t.Fatal("the rules share memory")
	}
	for s, row := range d.Next {
		fill(row, -9)
		if !slices.EqualFunc(d.Next[s+1:], kept.Next[s+1:], slices.Equal) {
			t.Fatal("rows share memory", s)
		}
	}
	for _, row := range d.Next[len(d.Next):cap(d.Next)] {
		fill(row, -9)
	}
	fill(d.Next, nil)
}

func TestBuiltAutomataAreNew(t *testing.T) {
	chance := rand.New(rand.NewSource(61))
	for range 200 {
		l := []api.Regex{markedRegex(someRegex(chance, 5)), markedRegex(someRegex(chance, 5)), {Kind: -7}}[:2]
		kept := []api.Regex{wholeRegex(l[0]), wholeRegex(l[1])}
		first, second := built(t, l...), built(t, l...)
		want := copied(first)
		spoilOneByOne(t, first)
		if !same(second, want) || !same(built(t, l...), want) {
			t.Fatal("two answers share memory")
		}
		if !sameRegex(wholeRegex(l[0]), kept[0]) || !sameRegex(wholeRegex(l[1]), kept[1]) || l[:3][2].Kind != -7 {
			t.Fatal("an argument is changed, or shared")
		}
	}
}

// asked are the answers of all calls of two automata; runes, bytes and automata.
func asked(t *testing.T, a, b api.Dfa, text []rune) (texts [][]rune, b1 []byte, autos []api.Dfa) {
	t.Helper()
	dfa.Check(a)
	dfa.Step(a, 0, 'a')
	dfa.Accept(a, text...)
	dfa.Longest(a, text...)
	apart, _, _ := dfa.Apart(a, b)
	witness, _, _ := dfa.Witness(a, 0)
	b1, e := dfa.Bytes(a)
	if e != api.OK {
		t.Fatal(e)
	}
	bytes := roomy(b1, 7, 8)
	read, _ := dfa.Read(bytes)
	if !slices.Equal(bytes[:cap(bytes)][:len(b1)+2], append(slices.Clone(b1), 7, 8)) {
		t.Fatal("bytes are changed")
	}
	fill(bytes, 99)
	return [][]rune{apart, witness}, b1, []api.Dfa{least(t, a), least(t, b), read}
}

func TestAnswersAreNew(t *testing.T) {
	chance := rand.New(rand.NewSource(62))
	for range 400 {
		a, b, text := marked(someAuto(chance)), marked(someAuto(chance)), roomy(someText(chance), -7, 3)
		keptA, keptB, keptText := whole(a), whole(b), slices.Clone(text[:cap(text)])
		texts, bytes, autos := asked(t, a, b, text)
		texts2, bytes2, autos2 := asked(t, a, b, text)
		fill(texts[0], -9)
		fill(bytes, 9)
		for _, d := range autos {
			spoilOneByOne(t, d)
		}
		fill(texts[1], -9)
		again, bytes3, autos3 := asked(t, a, b, text)
		if !slices.EqualFunc(texts2, again, slices.Equal) || !slices.Equal(bytes2, bytes3) || !slices.EqualFunc(autos2, autos3, same) {
			t.Fatal("answers share memory")
		}
		if !same(whole(a), keptA) || !same(whole(b), keptB) || !slices.Equal(text[:cap(text)], keptText) {
			t.Fatal("an argument is changed, or shared")
		}
	}
}

func TestWhatIsReadDoesNotShareItsBytes(t *testing.T) {
	d := auto([]rune{0, 'a'}, []int{-1, -1, 1}, []int{0, -1, -1})
	b, _ := dfa.Bytes(d)
	read, f := dfa.Read(b)
	fill(b, 200)
	if !same(read, d) || f != (api.Fault{}) {
		t.Error(read, f)
	}
	spoilOneByOne(t, read)
}
