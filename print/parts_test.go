package print_test

import (
	"math"
	"strconv"
	"strings"
	"testing"

	"quoin/api"
	"quoin/print"
)

// P9.1: Ref and Act.

func isRef(t testing.TB, r api.Ref, want string) {
	t.Helper()
	if s, e := print.Ref(r); s != want || e != api.OK {
		t.Errorf("%s %v, want %s", brief(s), e, brief(want))
	}
	refLikeWords(t, r)
}

func noRef(t testing.TB, r api.Ref) {
	t.Helper()
	if s, e := print.Ref(r); s != "" || e != api.ErrForm {
		t.Errorf("%s %v", brief(s), e)
	}
	refLikeWords(t, r)
}

func TestRefOfNames(t *testing.T) {
	for _, name := range []string{"if", "a", "__", "_9", "error", "text", "main", "end", "modules", "Rule", strings.Repeat("w", 32)} {
		isRef(t, ref(name), name)
		isRef(t, api.Ref{Name: name, Args: []api.Ref{}, At: -5}, name)
		isRef(t, ref("x", ref(name)), "x("+name+")")
	}
	for _, name := range append(strings.Fields("module use as mode token skip push pop left right none type open inline rule prec start"),
		"", "_", "9", "9a", "a b", " a", "a ", "a;", "a(b)", "é", "\xff", "$1", "\"q\"", strings.Repeat("w", 33)) {
		noRef(t, ref(name))
		noRef(t, ref(name, ref("a")))
		noRef(t, ref("a", ref(name)))
		noRef(t, ref("a", ref("b"), ref("c", ref("d"), ref(name))))
	}
	noRef(t, api.Ref{})
}

func TestRefOfArguments(t *testing.T) {
	isRef(t, ref("a", ref("b")), "a(b)")
	isRef(t, ref("a", refs("b", "c", "d", "e")...), "a(b, c, d, e)")
	noRef(t, ref("a", refs("b", "c", "d", "e", "f")...))
	isRef(t, ref("a", ref("b", ref("c"), ref("d", ref("e"))), ref("f")), "a(b(c, d(e)), f)")
	noRef(t, ref("a", ref("x"), ref("y", refs("b", "c", "d", "e", "f")...)))
}

func TestRefLevels(t *testing.T) {
	first, last := ref("x"), ref("x")
	for levels := 1; levels < 80; levels++ {
		first, last = ref("a", first, ref("b")), ref("a", last)
		if levels <= api.MaxNest {
			isRef(t, last, strings.Repeat("a(", levels)+"x"+strings.Repeat(")", levels))
			isRef(t, first, strings.Repeat("a(", levels)+"x"+strings.Repeat(", b)", levels))
		} else {
			noRef(t, last)
			noRef(t, first)
		}
	}
	hasForm(t, api.Spec{Name: "M", Rules: []api.RuleLine{rule("r", api.Alt{Syms: []api.Ref{deepRef(64), deepRef(64)}})}},
		"module M;\n\nrule r\n\t="+strings.Repeat(" "+strings.Repeat("a(", 64)+"x"+strings.Repeat(")", 64), 2)+"\n\t;\n")
	refusedTree(t, api.Spec{Name: "M", Rules: []api.RuleLine{rule("r", api.Alt{Syms: []api.Ref{deepRef(64), deepRef(65)}})}})
}

// deepRef is a symbol with so many levels.
func deepRef(levels int) api.Ref {
	r := ref("x")
	for range levels {
		r = ref("a", r)
	}
	return r
}

// deepAct is an action with so many levels.
func deepAct(levels int, in api.Act) api.Act {
	for range levels {
		in = node("N", in)
	}
	return in
}

func TestRefAtRandom(t *testing.T) {
	m := newMaker(93)
	rights, wrongs := 0, 0
	for range 2000 {
		r := m.ref(4)
		if !refLikeWords(t, r) {
			t.Fatal("not right")
		}
		l := partsOf(&r)
		p := l[m.Intn(len(l))]
		all := others(p.value)
		p.value.Set(all[m.Intn(len(all))])
		if refLikeWords(t, r) {
			rights++
		} else {
			wrongs++
		}
	}
	if rights < 100 || wrongs < 100 {
		t.Error("too few:", rights, wrongs)
	}
}

// No promise lets Ref and Act tell that a text is long: a module may be right, however long it is.
func TestLongParts(t *testing.T) {
	r := bush(9)
	s, e := print.Ref(r)
	if e != api.OK || s != laid("ref", r) || len(s) <= api.MaxSource {
		t.Error(len(s), e)
	}
	a := node("N", repeated(16, node("N", repeated(16, quoted(strings.Repeat("\x01", 4096)))...))...)
	s, e = print.Act(a, 0)
	if e != api.OK || s != laid("act", a) || len(s) <= api.MaxSource {
		t.Error(len(s), e)
	}
}

func isAct(t testing.TB, a api.Act, most int, want string) {
	t.Helper()
	if s, e := print.Act(a, most); s != want || e != api.OK {
		t.Errorf("%d: %s %v, want %s", most, brief(s), e, brief(want))
	}
	actLikeWords(t, a, most)
}

func noAct(t testing.TB, a api.Act, most int) {
	t.Helper()
	if s, e := print.Act(a, most); s != "" || e != api.ErrForm {
		t.Errorf("%d: %s %v", most, brief(s), e)
	}
	actLikeWords(t, a, most)
}

// manies are numbers of symbols, and those for which they count.
var manies = map[int]int{math.MinInt: 0, -2: 0, -1: 0, 0: 0, 1: 1, 2: 2, 9: 9, 10: 10, 31: 31, 32: 32, 33: 32, 34: 32, 1000: 32, math.MaxInt: 32}

func TestActOfPicks(t *testing.T) {
	for most, many := range manies {
		for _, at := range []int{math.MinInt, -2, -1, 0, 1, 2, 8, 9, 10, 30, 31, 32, 33, 1000, math.MaxInt - 1, math.MaxInt} {
			wrap := deepAct(3, pick(at))
			if at >= 0 && at < many {
				isAct(t, pick(at), most, "$"+strconv.Itoa(at+1))
				isAct(t, wrap, most, "N(N(N($"+strconv.Itoa(at+1)+")))")
			} else {
				noAct(t, pick(at), most)
				noAct(t, wrap, most)
			}
		}
		if many > 0 {
			isAct(t, pick(0), most, "$1")
			isAct(t, pick(many-1), most, "$"+strconv.Itoa(many))
		}
		noAct(t, pick(many), most)
		noAct(t, api.Act{Kind: api.ActPick, Name: "N"}, most)
		noAct(t, api.Act{Kind: api.ActPick, Kids: []api.Act{none()}}, most)
	}
}

// Actions without picks hang on no number of symbols; also where they are the ones that are meant.
func TestActOfOthers(t *testing.T) {
	for most := range manies {
		isAct(t, none(), most, "_")
		isAct(t, api.Act{Kids: []api.Act{}}, most, "_")
		isAct(t, node("N"), most, "N")
		isAct(t, api.Act{Kind: api.ActNode, Name: "N", Kids: []api.Act{}}, most, "N")
		isAct(t, node("N", none()), most, "N(_)")
		isAct(t, node("N", none(), quoted("a"), node("M", node("L")), node("K")), most, `N(_, "a", M(L), K)`)
		isAct(t, node("N", repeated(16, none())...), most, "N("+strings.Repeat("_, ", 15)+"_)")
		noAct(t, node("N", repeated(17, none())...), most)
		for _, name := range []string{"", "_", "rule", "9", "a b", strings.Repeat("w", 33)} {
			noAct(t, node(name), most)
			noAct(t, node("N", node(name)), most)
		}
		for _, a := range []api.Act{{At: 1}, {At: -1}, {Name: "N"}, {Kids: []api.Act{{}}}, {Kind: -1}, {Kind: 4}, {Kind: api.ActText, At: 1}, {Kind: api.ActText, Kids: []api.Act{{}}}, {Kind: api.ActNode, Name: "N", At: 1}} {
			noAct(t, a, most)
			noAct(t, node("N", none(), a), most)
		}
	}
}

func TestActOfTexts(t *testing.T) {
	for value, want := range map[string]string{
		"":                           `""`,
		"a b":                        `"a b"`,
		"\n\t\r\"\\":                 `"\n\t\r\"\\"`,
		"\x00\x1f\x7f\xff":           `"\x00\x1f\x7f\xff"`,
		"é\U0010ffff":                "\"é\U0010ffff\"",
		"\xc3":                       `"\xc3"`,
		"a\x01\"é":                   `"a\x01\"é"`,
		"rule":                       `"rule"`,
		"// $1 ; |":                  `"// $1 ; |"`,
		strings.Repeat("\x01", 4096): `"` + strings.Repeat(`\x01`, 4096) + `"`,
	} {
		isAct(t, quoted(value), 0, want)
		isAct(t, node("N", quoted(value)), 3, "N("+want+")")
		hasForm(t, api.Spec{Name: "M", Rules: []api.RuleLine{rule("r", api.Alt{Act: quoted(value)})}}, "module M;\n\nrule r\n\t= => "+want+"\n\t;\n")
	}
	noAct(t, quoted(strings.Repeat("q", 4097)), 0)
	noAct(t, node("N", quoted(strings.Repeat("q", 4097))), 0)
	for b := range 256 {
		actLikeWords(t, quoted("x"+string([]byte{byte(b)})+"y"), 1)
	}
}

func TestActLevels(t *testing.T) {
	for levels := range 80 {
		a := deepAct(levels, pick(1))
		if levels <= api.MaxNest {
			isAct(t, a, 2, strings.Repeat("N(", levels)+"$2"+strings.Repeat(")", levels))
		} else {
			noAct(t, a, 2)
		}
		noAct(t, a, 1)
		if levels > 0 { // a node without kids opens no level
			b := deepAct(levels, node("M"))
			if levels <= api.MaxNest {
				isAct(t, b, 0, strings.Repeat("N(", levels)+"M"+strings.Repeat(")", levels))
			} else {
				noAct(t, b, 0)
			}
		}
	}
}

func TestActAtRandom(t *testing.T) {
	m := newMaker(94)
	rights, wrongs := 0, 0
	for range 3000 {
		most := m.Intn(36) - 2
		a := m.act(max(most, 0), 4)
		actLikeWords(t, a, most)
		actLikeWords(t, a, m.Intn(3))
		l := partsOf(&a)
		p := l[m.Intn(len(l))]
		all := others(p.value)
		p.value.Set(all[m.Intn(len(all))])
		if actLikeWords(t, a, most) {
			rights++
		} else {
			wrongs++
		}
	}
	if rights < 100 || wrongs < 100 {
		t.Error("too few:", rights, wrongs)
	}
}
