package gram_test

import (
	"math"
	"reflect"
	"slices"
	"strconv"
	"strings"
	"testing"

	"quoin/api"
	"quoin/gram"
	"quoin/token"
)

// C1: which grammars may be, and that every call tells it first.

// refused holds all calls at a grammar that may not be, whatever else they are given.
func refused(t *testing.T, what string, g api.Plain) {
	t.Helper()
	if e := gram.Check(g); e != api.ErrPlain {
		t.Error(what, "Check:", e)
	}
	if r, e := gram.Look(g); e != api.ErrPlain || !reflect.DeepEqual(r, api.Report{}) {
		t.Error(what, "Look:", r, e)
	}
	for _, row := range [][]int{nil, {2}, {0}, {-1}, {math.MaxInt}} {
		if l, is, e := gram.First(g, row...); e != api.ErrPlain || len(l) > 0 || is {
			t.Error(what, "First:", l, is, e)
		}
	}
	if made, e := gram.Trim(g); e != api.ErrPlain || !reflect.DeepEqual(made, api.Plain{}) {
		t.Error(what, "Trim:", made, e)
	}
	for _, rule := range []int{0, -1, len(g.Rules), math.MinInt, math.MaxInt} {
		if n, is, e := gram.Least(g, rule); e != api.ErrPlain || n != 0 || is {
			t.Error(what, "Least:", n, is, e)
		}
		if l, e := gram.Row(g, rule); e != api.ErrPlain || len(l) > 0 {
			t.Error(what, "Row:", l, e)
		}
	}
	if l, e := gram.Lines(g); e != api.ErrPlain || len(l) > 0 {
		t.Error(what, "Lines:", l, e)
	}
}

// taken holds the calls at a grammar that may be: none tells ErrPlain.
func taken(t *testing.T, what string, g api.Plain) {
	t.Helper()
	if e := gram.Check(g); e != api.OK {
		t.Error(what, "Check:", e)
	}
	if _, e := gram.Look(g); e != api.OK {
		t.Error(what, "Look:", e)
	}
	if _, _, e := gram.First(g, 1); e != api.OK {
		t.Error(what, "First:", e)
	}
	if _, e := gram.Trim(g); e != api.OK && e != api.ErrNone {
		t.Error(what, "Trim:", e)
	}
	if _, _, e := gram.Least(g, 0); e != api.OK {
		t.Error(what, "Least:", e)
	}
	if _, e := gram.Row(g, 0); e == api.ErrPlain || e == api.ErrArg {
		t.Error(what, "Row:", e)
	}
	if l, e := gram.Lines(g); e != api.OK || len(l) != len(g.Prods) {
		t.Error(what, "Lines:", e)
	}
}

// turned is a grammar that may be, with something turned.
func turned(turn func(g *api.Plain)) api.Plain {
	g := read("S = A b; A = a A; A =; B = b")
	g.Precs[2] = api.Prec{Level: 1, Assoc: api.AssocLeft}
	turn(&g)
	return g
}

type turning struct {
	what  string
	isBad bool
	turn  func(g *api.Plain)
}

func testTurnings(t *testing.T, l []turning) {
	t.Helper()
	for _, x := range l {
		g := turned(x.turn)
		if x.isBad == wordMayBe(g) {
			t.Error("the test is wrong:", x.what)
		}
		if x.isBad {
			refused(t, x.what, g)
		} else {
			taken(t, x.what, g)
		}
	}
}

// manyWords are so many words, no two alike.
func manyWords(n int) []string {
	var l []string
	for i := range n {
		l = append(l, "w"+strconv.Itoa(i))
	}
	return l
}

// withKinds gives a grammar other kinds, and nothing else that hangs on them.
func withKinds(g *api.Plain, kinds ...string) {
	g.Kinds, g.Precs, g.Prods = kinds, make([]api.Prec, len(kinds)), nil
}

func TestNoGrammar(t *testing.T) {
	refused(t, "the zero one", api.Plain{})
	refused(t, "rules alone", api.Plain{Rules: []string{"S"}})
	taken(t, "as little as can be", api.Plain{Kinds: []string{"end", "error"}, Precs: make([]api.Prec, 2), Rules: []string{"S"}})
	taken(t, "as it is", turned(func(g *api.Plain) {}))
}

func TestKinds(t *testing.T) {
	testTurnings(t, []turning{
		{"none", true, func(g *api.Plain) { withKinds(g) }},
		{"end alone", true, func(g *api.Plain) { withKinds(g, "end") }},
		{"the two", false, func(g *api.Plain) { withKinds(g, "end", "error") }},
		{"in the other order", true, func(g *api.Plain) { withKinds(g, "error", "end") }},
		{"two alike", true, func(g *api.Plain) { withKinds(g, "end", "error", "a", "a") }},
		{"end again", true, func(g *api.Plain) { withKinds(g, "end", "error", "end") }},
		{"an empty name", true, func(g *api.Plain) { withKinds(g, "end", "error", "") }},
		{"a digit first", true, func(g *api.Plain) { withKinds(g, "end", "error", "9x") }},
		{"64 bytes", false, func(g *api.Plain) { withKinds(g, "end", "error", strings.Repeat("x", 64)) }},
		{"65 bytes", true, func(g *api.Plain) { withKinds(g, "end", "error", strings.Repeat("x", 65)) }},
		{"1024", false, func(g *api.Plain) { withKinds(g, append([]string{"end", "error"}, manyWords(1022)...)...) }},
		{"1025", true, func(g *api.Plain) { withKinds(g, append([]string{"end", "error"}, manyWords(1023)...)...) }},
	})
}

func TestPrecs(t *testing.T) {
	with := func(kind, level, assoc int) func(g *api.Plain) {
		return func(g *api.Plain) { g.Precs[kind] = api.Prec{Level: level, Assoc: assoc} }
	}
	l := []turning{
		{"none", true, func(g *api.Plain) { g.Precs = nil }},
		{"one too few", true, func(g *api.Plain) { g.Precs = g.Precs[:3] }},
		{"one too many", true, func(g *api.Plain) { g.Precs = append(g.Precs, api.Prec{}) }},
		{"a kind too many", true, func(g *api.Plain) { g.Kinds = append(g.Kinds, "c") }},
	}
	for kind := range 4 {
		for _, level := range []int{math.MinInt, -1, 0, 1, 2, math.MaxInt} {
			for _, assoc := range []int{math.MinInt, -1, api.AssocNone, api.AssocLeft, api.AssocRight, api.AssocNot, 4, math.MaxInt} {
				isRight := level == 0 && assoc == 0 || kind >= 2 && level >= 1 && 1 <= assoc && assoc <= 3
				l = append(l, turning{told([]int{kind, level, assoc}), !isRight, with(kind, level, assoc)})
			}
		}
	}
	testTurnings(t, l)
}

func TestRules(t *testing.T) {
	with := func(rules ...string) func(g *api.Plain) {
		return func(g *api.Plain) { g.Rules, g.Prods = rules, nil }
	}
	testTurnings(t, []turning{
		{"none", true, with()},
		{"one", false, with("S")},
		{"2048", false, with(manyWords(2048)...)},
		{"2049", true, with(manyWords(2049)...)},
		{"an empty text", true, with("S", "")},
		{"an empty text alone", true, with("")},
		{"one byte", false, with("S", "\x00")},
		{"any bytes", false, with("S", "many(A, \"é\xff\")\n = ;")},
		{"4096 bytes", false, with("S", strings.Repeat("x", 4096))},
		{"4097 bytes", true, with("S", strings.Repeat("x", 4097))},
		{"4096 bytes of longer runes", false, with("S", strings.Repeat("é", 2048))},
		{"2049 runes in 4098 bytes", true, with("S", strings.Repeat("é", 2049))},
		{"two alike", true, with("S", "A", "S")},
		{"two alike at the end", true, with("S", "A", "B", "B")},
		{"alike but for the case", false, with("S", "s", "S ")},
		{"a kind's name", false, with("end", "error", "a", "b")},
		{"2048, the last two alike", true, with(append(manyWords(2047), "w2046")...)},
	})
}

func TestStart(t *testing.T) {
	for _, start := range []int{math.MinInt, -1, 0, 1, 2, 3, 4, 6, math.MaxInt} {
		isBad := start < 0 || start > 2
		testTurnings(t, []turning{{strconv.Itoa(start), isBad, func(g *api.Plain) { g.Start = start }}})
	}
	testTurnings(t, []turning{{"no rule is there", true, func(g *api.Plain) { g.Rules, g.Prods, g.Start = nil, nil, 0 }}})
}

func TestProds(t *testing.T) {
	many := func(n int) func(g *api.Plain) {
		return func(g *api.Plain) { g.Prods = slices.Repeat([]api.Prod{{Left: 1, Right: []int{2, 4}}}, n) }
	}
	l := []turning{{"none", false, many(0)}, {"4096", false, many(4096)}, {"4097", true, many(4097)}}
	for _, n := range []int{math.MinInt, -1, 0, 1, 2, 3, 4, 6, 7, math.MaxInt} {
		l = append(l, turning{"Left " + strconv.Itoa(n), n < 0 || n > 2, func(g *api.Plain) { g.Prods[1].Left = n }})
		l = append(l, turning{"Right " + strconv.Itoa(n), n < 1 || n > 6, func(g *api.Plain) { g.Prods[1].Right[1] = n }})
		l = append(l, turning{"the last Right " + strconv.Itoa(n), n < 1 || n > 6, func(g *api.Plain) { g.Prods[3].Right = []int{1, 2, 3, 4, 5, 6, n} }})
		l = append(l, turning{"Level " + strconv.Itoa(n), n < 0, func(g *api.Plain) { g.Prods[3].Level = n }})
	}
	for _, n := range []int{0, 1, 63, 64, 65, 66, 200} {
		for _, x := range []int{1, 2, 4} {
			l = append(l, turning{strconv.Itoa(n) + " symbols", n > 64, func(g *api.Plain) { g.Prods[2].Right = slices.Repeat([]int{x}, n) }})
		}
	}
	testTurnings(t, l)
}

// acts are actions of one symbol, those that may be first.
func acts() (right, wrong []api.Act) {
	none, pick, text, node := api.Act{}, api.Act{Kind: api.ActPick}, api.Act{Kind: api.ActText, Name: "t"}, api.Act{Kind: api.ActNode, Name: "N"}
	right = []api.Act{none, pick, text, node, {Kind: api.ActText}}
	for _, a := range []api.Act{none, pick, text, node} {
		for _, kid := range []api.Act{none, pick, node} {
			b := a
			b.Kids = []api.Act{kid}
			if a.Kind == api.ActNode {
				right = append(right, b)
			} else {
				wrong = append(wrong, b)
			}
		}
		for _, at := range []int{math.MinInt, -1, 1, math.MaxInt} {
			b := a
			b.At = at
			wrong = append(wrong, b)
		}
	}
	none.Name, pick.Name, node.Name = "N", "N", ""
	wrong = append(wrong, none, pick, node)
	for _, kind := range []int{math.MinInt, -1, 4, math.MaxInt} {
		wrong = append(wrong, api.Act{Kind: kind}, api.Act{Kind: kind, Name: "N"})
	}
	for _, n := range []int{0, 1, 31, 32, 33, 4095, 4096, 4097} {
		for kind := range 4 {
			a := api.Act{Kind: kind, Name: strings.Repeat("x", n)}
			isRight := kind < 2 && n == 0 || kind == api.ActNode && 1 <= n && n <= 32 || kind == api.ActText && n <= 4096
			if isRight {
				right = append(right, a)
			} else {
				wrong = append(wrong, a)
			}
		}
	}
	right = append(right, api.Act{Kind: api.ActNode, Name: "\x00 é\xff"}, api.Act{Kind: api.ActText, Name: "\x00 é\xff"})
	return right, wrong
}

// Each action by itself, as a kid, and as a kid's kid.
func TestActs(t *testing.T) {
	right, wrong := acts()
	for i, a := range slices.Concat(right, wrong) {
		for deep := range 3 {
			g := turned(func(g *api.Plain) { g.Prods[3].Act = a })
			if isRight := i < len(right); isRight != wordMayBe(g) {
				t.Error("the test is wrong:", deep, told(a))
			} else if isRight {
				taken(t, told(a), g)
			} else {
				refused(t, told(a), g)
			}
			a = api.Act{Kind: api.ActNode, Name: "M", Kids: []api.Act{right[1], a, right[2]}}
		}
	}
}

// Picks at and beyond the end, of productions of none, one and many symbols.
func TestPicks(t *testing.T) {
	for _, n := range []int{0, 1, 2, 64} {
		for _, at := range []int{math.MinInt, -1, 0, 1, 2, 63, 64, 65, math.MaxInt} {
			pick := api.Act{Kind: api.ActPick, At: at}
			for _, a := range []api.Act{pick, {Kind: api.ActNode, Name: "N", Kids: []api.Act{{}, {Kind: api.ActNode, Name: "N", Kids: []api.Act{pick}}}}} {
				testTurnings(t, []turning{{told(a), at < 0 || at >= n, func(g *api.Plain) {
					g.Prods[1] = api.Prod{Left: 1, Right: slices.Repeat([]int{3}, n), Act: a}
				}}})
			}
		}
	}
}

// deepAct is an action of so many parts, one within the other; wideAct has all but one beside each other.
func deepAct(parts int) api.Act {
	a := api.Act{Kind: api.ActNode, Name: "N"}
	for range parts - 1 {
		a = api.Act{Kind: api.ActNode, Name: "N", Kids: []api.Act{a}}
	}
	return a
}

func wideAct(parts int) api.Act {
	return api.Act{Kind: api.ActNode, Name: "N", Kids: make([]api.Act, parts-1)}
}

func TestPartsOfActs(t *testing.T) {
	with := func(a api.Act) func(g *api.Plain) {
		return func(g *api.Plain) { g.Prods[0].Act = a }
	}
	both := func(a, b api.Act) api.Act { return api.Act{Kind: api.ActNode, Name: "N", Kids: []api.Act{a, b}} }
	testTurnings(t, []turning{
		{"256 within one another", false, with(deepAct(256))},
		{"257 within one another", true, with(deepAct(257))},
		{"256 beside each other", false, with(wideAct(256))},
		{"257 beside each other", true, with(wideAct(257))},
		{"256 in two", false, with(both(deepAct(100), wideAct(155)))},
		{"257 in two", true, with(both(deepAct(100), wideAct(156)))},
		{"257 in two, the other way", true, with(both(wideAct(156), deepAct(100)))},
		{"2^15 within one another", true, with(deepAct(1 << 15))},
		{"256 in each of two productions", false, func(g *api.Plain) { g.Prods[0].Act, g.Prods[1].Act = wideAct(256), wideAct(256) }},
	})
}

// Actions whose lists are shared so often, or are their own, that no call could go through them.
func TestEndlessActs(t *testing.T) {
	a := api.Act{Kind: api.ActNode, Name: "N"}
	for range 200 {
		a.Kids = []api.Act{a, a}
	}
	ring := []api.Act{{Kind: api.ActNode, Name: "N"}, {Kind: api.ActNode, Name: "N"}}
	ring[0].Kids, ring[1].Kids = ring, ring
	for _, a := range []api.Act{a, ring[0]} {
		g := turned(func(g *api.Plain) { g.Prods[0].Act = a })
		if e := gram.Check(g); e != api.ErrPlain {
			t.Error(e)
		}
		if _, e := gram.Trim(g); e != api.ErrPlain {
			t.Error(e)
		}
	}
}

// wordMayBe: whether a grammar may be, as the chapter has it.
func wordMayBe(g api.Plain) bool {
	isRule := func(n int) bool { return n >= 0 && n < len(g.Rules) }
	is := token.Kinds(g.Kinds...) == api.OK
	is = is && len(g.Precs) == len(g.Kinds)
	for kind, p := range g.Precs {
		is = is && (p.Level == 0 && p.Assoc == api.AssocNone || p.Level >= 1 && slices.Contains([]int{api.AssocLeft, api.AssocRight, api.AssocNot}, p.Assoc))
		is = is && (kind > 1 || p.Level == 0)
	}
	is = is && len(g.Rules) >= 1 && len(g.Rules) <= 2048
	sorted := slices.Clone(g.Rules)
	slices.Sort(sorted)
	for i, name := range sorted {
		is = is && len(name) >= 1 && len(name) <= 4096 && (i == 0 || sorted[i-1] != name)
	}
	is = is && isRule(g.Start) && len(g.Prods) <= 4096
	for _, p := range g.Prods {
		is = is && isRule(p.Left) && len(p.Right) <= 64 && p.Level >= 0
		for _, x := range p.Right {
			is = is && (x > 0 && x < len(g.Kinds) || x >= 0 && isRule(x-len(g.Kinds)))
		}
		is = is && wordAct(p.Act, len(p.Right)) && wordParts(p.Act) <= 256
	}
	return is
}

func wordAct(a api.Act, symbols int) bool {
	bare := a
	switch a.Kind {
	case api.ActNone:
	case api.ActPick:
		if a.At < 0 || a.At >= symbols {
			return false
		}
		bare.At = 0
	case api.ActText:
		if len(a.Name) > 4096 {
			return false
		}
		bare.Name = ""
	case api.ActNode:
		if len(a.Name) < 1 || len(a.Name) > 32 || slices.ContainsFunc(a.Kids, func(k api.Act) bool { return !wordAct(k, symbols) }) {
			return false
		}
		bare.Name, bare.Kids = "", nil
	default:
		return false
	}
	return bare.At == 0 && bare.Name == "" && len(bare.Kids) == 0
}

func wordParts(a api.Act) int {
	n := 1
	for _, k := range a.Kids {
		n += wordParts(k)
	}
	return n
}

// spots are all numbers, texts and lists within a value.
func spots(v reflect.Value) []reflect.Value {
	var l []reflect.Value
	switch v.Kind() {
	case reflect.Struct:
		for i := range v.NumField() {
			l = append(l, spots(v.Field(i))...)
		}
	case reflect.Slice:
		l = append(l, v)
		for i := range v.Len() {
			l = append(l, spots(v.Index(i))...)
		}
	default:
		l = append(l, v)
	}
	return l
}

// Grammars in which something, wherever, is another one.
func TestCheckByChance(t *testing.T) {
	m := newMaker(504)
	bad := 0
	for range 6000 {
		g := m.plain(4, 2, 3)
		for range 1 + m.Intn(2) {
			l := spots(reflect.ValueOf(&g).Elem())
			v := l[m.Intn(len(l))]
			switch v.Kind() {
			case reflect.Int:
				v.SetInt(int64([]int{math.MinInt, -1, 0, 1, 2, 3, 4, 5, 6, 7, math.MaxInt}[m.Intn(11)]))
			case reflect.String:
				v.SetString([]string{"", "a", "R1", "end", "N", "\xff", strings.Repeat("w", 33), strings.Repeat("w", 5000)}[m.Intn(8)])
			default:
				v.SetZero()
			}
		}
		if wordMayBe(g) {
			likeWords(t, g)
		} else {
			bad++
			refused(t, told(g), g)
		}
	}
	if bad < 1000 || bad > 5000 {
		t.Error(bad)
	}
}
