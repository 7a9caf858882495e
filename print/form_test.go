package print_test

import (
	"math/rand"
	"strings"
	"testing"

	"quoin/api"
	"quoin/print"
	"quoin/spec"
)

// P9.1: Spec: the laid-out form, group by group, and of trees that are none.

func TestNameAlone(t *testing.T) {
	hasForm(t, api.Spec{Name: "M"}, "module M;\n")
	hasForm(t, api.Spec{Name: "__"}, "module __;\n")
	long := strings.Repeat("w", api.MaxWord)
	hasForm(t, api.Spec{Name: long, Uses: []api.Use{}, Lex: []api.LexLine{}, Precs: []api.PrecLine{}, Datas: []api.DataLine{}, Rules: []api.RuleLine{}, Starts: []string{}}, "module "+long+";\n")
}

// groupOf puts so many of one group into a tree; groupTexts are their lines.
func groupOf(s *api.Spec, group, many int) {
	switch group {
	case 0:
		s.Uses = repeated(many, api.Use{Module: "U"})
	case 1:
		s.Lex = repeated(many, api.LexLine{Mode: "main", Re: set('a')})
	case 2:
		s.Precs = repeated(many, api.PrecLine{Assoc: api.AssocRight, Names: []string{"a"}})
	case 3:
		s.Datas = repeated(many, api.DataLine{Data: api.Data{Name: "T", Ctors: []api.Ctor{{Name: "C"}}}})
	case 4:
		s.Rules = repeated(many, rule("r", api.Alt{}))
	case 5:
		s.Starts = repeated(many, "r")
	}
}

var groupTexts = [6]string{"use U;\n", "skip = [a];\n", "right a;\n", "type T = C;\n", "rule r\n\t=\n\t;\n", " r"}

// Each group with nothing in it, with one and with several, beside all others with nothing, with one and with several.
func TestGroups(t *testing.T) {
	for n := range 3 * 3 * 3 * 3 * 3 * 3 {
		s, want := api.Spec{Name: "M"}, "module M;\n"
		for group, rest := 0, n; group < 6; group, rest = group+1, rest/3 {
			many := rest % 3
			groupOf(&s, group, many)
			switch {
			case many == 0:
			case group == 4:
				want += strings.Repeat("\n"+groupTexts[4], many)
			case group == 5:
				want += "\nstart" + strings.Repeat(groupTexts[5], many) + ";\n"
			default:
				want += "\n" + strings.Repeat(groupTexts[group], many)
			}
		}
		hasForm(t, s, want)
	}
}

func TestUses(t *testing.T) {
	s := api.Spec{Name: "M", Uses: []api.Use{
		{Module: "A"},
		{Module: "B", Names: []api.Rename{}},
		{Module: "C", Names: []api.Rename{{Name: "a", As: "a"}}},
		{Module: "D", Names: []api.Rename{{Name: "a", As: "b"}}},
		{Module: "E", Names: []api.Rename{{Name: "a", As: "b"}, {Name: "c", As: "c"}, {Name: "d", As: "D"}, {Name: "a", As: "b"}}},
		{Module: "A"},
	}}
	hasForm(t, s, "module M;\n\nuse A;\nuse B;\nuse C (a);\nuse D (a as b);\nuse E (a as b, c, d as D, a as b);\nuse A;\n")
	// Of a name without an As there is no text that has it.
	s.Uses[3].Names[0].As = ""
	refusedTree(t, s)
	isFormat(t, "module M;use C(a,b as b,c as d);", "module M;\n\nuse C (a, b, c as d);\n")
}

func TestModes(t *testing.T) {
	lines := func(modes ...string) api.Spec {
		s := api.Spec{Name: "M"}
		for _, m := range modes {
			s.Lex = append(s.Lex, api.LexLine{Mode: m, Re: set('a')})
		}
		return s
	}
	const line = "skip = [a];\n"
	for _, c := range []struct {
		modes []string
		want  string
	}{
		{[]string{"main"}, line},
		{[]string{"in"}, "mode in;\n" + line},
		{[]string{"main", "main"}, line + line},
		{[]string{"in", "in"}, "mode in;\n" + line + line},
		{[]string{"main", "in"}, line + "mode in;\n" + line},
		{[]string{"in", "main"}, "mode in;\n" + line + "mode main;\n" + line},
		{[]string{"main", "in", "in", "main", "main", "in"}, line + "mode in;\n" + line + line + "mode main;\n" + line + line + "mode in;\n" + line},
		{[]string{"a", "b", "a"}, "mode a;\n" + line + "mode b;\n" + line + "mode a;\n" + line},
		{[]string{"Main", "main_"}, "mode Main;\n" + line + "mode main_;\n" + line},
	} {
		hasForm(t, lines(c.modes...), "module M;\n\n"+c.want)
	}
	// Modes without scanner rules leave nothing, and one that is told again and again is told once.
	isFormat(t, "module M; mode a; mode b;", "module M;\n")
	isFormat(t, "module M; mode a; mode main; skip = \"a\"; mode a; mode main; skip = \"a\"; mode b;", "module M;\n\n"+line+line)
	// Two forms that are asked for one behind the other know nothing of each other's modes.
	hasForm(t, lines("in"), "module M;\n\nmode in;\n"+line)
	hasForm(t, lines("main"), "module M;\n\n"+line)
}

func TestScannerRules(t *testing.T) {
	for _, name := range []string{"", "T"} {
		ahead := "skip = [a]"
		if name != "" {
			ahead = "token T = [a]"
		}
		for want, l := range map[string]api.LexLine{
			ahead + ";\n":             {},
			ahead + " pop;\n":         {Pop: true},
			ahead + " push in;\n":     {Push: "in"},
			ahead + " pop push in;\n": {Pop: true, Push: "in"},
		} {
			l.Mode, l.Name, l.Re = "main", name, set('a')
			hasForm(t, api.Spec{Name: "M", Lex: []api.LexLine{l}}, "module M;\n\n"+want)
		}
	}
	for src, want := range map[string]string{
		`"if" | [a-z]+`:   `[a-z] [a-z]* | [i] [f]`,
		`[]`:              `[]`,
		`""`:              `""`,
		`"//"`:            `[/] [/]`,
		`";" "|" pop`:     `[;] [|] pop`,
		`!("a" & "b")`:    `![]`,
		`! ! "a"`:         `[a]`,
		`("a"|"bc")* "d"`: `([a] | [b] [c])* [d]`,
	} {
		isFormat(t, "module M; skip = "+src+"; token A = "+src+";", "module M;\n\nskip = "+want+";\ntoken A = "+want+";\n")
	}
}

func TestLevels(t *testing.T) {
	s := api.Spec{Name: "M", Precs: []api.PrecLine{
		{Assoc: api.AssocLeft, Names: []string{"a"}},
		{Assoc: api.AssocRight, Names: []string{"b", "c"}},
		{Assoc: api.AssocNot, Names: []string{"d", "e", "d"}},
		{Assoc: api.AssocLeft, Names: []string{"a"}},
	}}
	hasForm(t, s, "module M;\n\nleft a;\nright b c;\nnone d e d;\nleft a;\n")
	for _, assoc := range []int{-1, api.AssocNone, 4} {
		s.Precs[1].Assoc = assoc
		refusedTree(t, s)
	}
}

func TestTypes(t *testing.T) {
	s := api.Spec{Name: "M", Datas: []api.DataLine{
		{Data: api.Data{Name: "A", Ctors: []api.Ctor{{Name: "B"}}}},
		{Data: api.Data{Name: "C", Ctors: []api.Ctor{{Name: "D", Fields: []string{"A"}}}}},
		{Data: api.Data{Name: "E", Ctors: []api.Ctor{{Name: "F", Fields: []string{"A", "C", "text"}}, {Name: "G", Fields: []string{}}, {Name: "H", Fields: []string{"E", "E"}}}}},
	}}
	hasForm(t, s, "module M;\n\ntype A = B;\ntype C = D(A);\ntype E = F(A, C, text) | G | H(E, E);\n")
}

func TestRules(t *testing.T) {
	for _, c := range []struct {
		r    api.RuleLine
		want string
	}{
		{api.RuleLine{}, "rule r\n"},
		{api.RuleLine{Open: true}, "open rule r\n"},
		{api.RuleLine{Inline: true}, "inline rule r\n"},
		{api.RuleLine{Open: true, Inline: true}, "open inline rule r\n"},
		{api.RuleLine{Params: []string{}}, "rule r\n"},
		{api.RuleLine{Params: []string{"p"}}, "rule r(p)\n"},
		{api.RuleLine{Params: []string{"p", "q", "r", "s"}}, "rule r(p, q, r, s)\n"},
		{api.RuleLine{Type: "T"}, "rule r: T\n"},
		{api.RuleLine{Params: []string{"p"}, Type: "T"}, "rule r(p): T\n"},
		{api.RuleLine{Open: true, Inline: true, Params: []string{"p", "q"}, Type: "text"}, "open inline rule r(p, q): text\n"},
	} {
		c.r.Name = "r"
		c.r.Alts = []api.Alt{{}}
		hasForm(t, api.Spec{Name: "M", Rules: []api.RuleLine{c.r}}, "module M;\n\n"+c.want+"\t=\n\t;\n")
		c.r.Alts = []api.Alt{{Syms: refs("a"), Act: pick(0)}, {}, {Syms: refs("b", "c")}}
		hasForm(t, api.Spec{Name: "M", Rules: []api.RuleLine{c.r, c.r}}, "module M;\n"+strings.Repeat("\n"+c.want+"\t= a\n\t|\n\t| b c\n\t;\n", 2))
	}
}

// An alternative with no, one and several symbols, with and without Prec, and with each action.
func TestAlternatives(t *testing.T) {
	for _, c := range []struct {
		syms []api.Ref
		text string
		acts map[string]api.Act
	}{
		{nil, "", map[string]api.Act{
			"": none(), " => N": node("N"), ` => ""`: quoted(""), ` => N(_)`: node("N", none()),
		}},
		{refs("a"), " a", map[string]api.Act{
			"": pick(0), " => _": none(), " => N": node("N"), " => N($1)": node("N", pick(0)), ` => "a"`: quoted("a"),
		}},
		{[]api.Ref{ref("a", ref("b"))}, " a(b)", map[string]api.Act{"": pick(0), " => _": none()}},
		{refs("a", "b"), " a b", map[string]api.Act{
			"": none(), " => $1": pick(0), " => $2": pick(1), " => N": node("N"), " => N($2, $1)": node("N", pick(1), pick(0)), ` => "a"`: quoted("a"),
		}},
		{repeated(api.MaxSyms, ref("a")), strings.Repeat(" a", api.MaxSyms), map[string]api.Act{
			"": none(), " => $1": pick(0), " => $9": pick(8), " => $10": pick(9), " => $32": pick(31),
		}},
	} {
		for text, act := range c.acts {
			for _, prec := range []string{"", "P"} {
				want := c.text
				if prec != "" {
					want += " prec P"
				}
				want += text
				s := api.Spec{Name: "M", Rules: []api.RuleLine{rule("r", api.Alt{Syms: c.syms, Prec: prec, Act: act})}}
				hasForm(t, s, "module M;\n\nrule r\n\t="+want+"\n\t;\n")
			}
		}
	}
	isFormat(t, "module M;rule r=a=>$1|a b=>_|=>_|a b=>$1|a=>_;", "module M;\n\nrule r\n\t= a\n\t| a b\n\t|\n\t| a b => $1\n\t| a => _\n\t;\n")
}

// refusedTree holds that a tree has no form.
func refusedTree(t testing.TB, s api.Spec) {
	t.Helper()
	if form, e := print.Spec(s); form != "" || e != api.ErrForm || spec.Right(s) {
		t.Error(brief(form), e)
	}
}

func TestWrongTrees(t *testing.T) {
	refusedTree(t, api.Spec{})
	for _, name := range []string{"_", "9", "module", "a b", "é", strings.Repeat("w", 33)} {
		refusedTree(t, api.Spec{Name: name})
	}
	for name, change := range map[string]func(*api.Spec){
		"a use without a module":               func(s *api.Spec) { s.Uses[0].Module = "" },
		"a scanner rule without a mode":        func(s *api.Spec) { s.Lex[0].Mode = "" },
		"an expression not in its one form":    func(s *api.Spec) { s.Lex[0].Re = api.Regex{Kind: api.ReCat, Kids: []api.Regex{set('a')}} },
		"a level of nothing":                   func(s *api.Spec) { s.Precs[0].Names = nil },
		"a type without constructors":          func(s *api.Spec) { s.Datas[0].Data.Ctors = nil },
		"a rule without alternatives":          func(s *api.Spec) { s.Rules[0].Alts = nil },
		"a pick of a symbol that is not there": func(s *api.Spec) { s.Rules[0].Alts[0].Act = pick(2) },
		"an action with a field too many":      func(s *api.Spec) { s.Rules[0].Alts[0].Act = api.Act{Name: "N"} },
		"too many alternatives":                func(s *api.Spec) { s.Rules[0].Alts = repeated(257, api.Alt{}) },
		"a start that is a key":                func(s *api.Spec) { s.Starts[0] = "start" },
	} {
		s := plainTree()
		hasForm(t, s, "module M;\n\nuse U (a as b);\n\ntoken T = [a] pop push in;\n\nleft T;\n\ntype D = N(D);\n\nopen inline rule r(p): D\n\t= p(x) y prec T => N($2, \"q\", _)\n\t;\n\nstart r;\n")
		change(&s)
		if spec.Right(s) {
			t.Error(name)
		}
		refusedTree(t, s)
	}
}

// One part of a tree is made another one: it has a form just if it is right.
func TestTreesOfOneChange(t *testing.T) {
	rights, wrongs := 0, 0
	for i := range partsOf(new(plainTree())) {
		s := plainTree()
		p := partsOf(&s)[i]
		for _, x := range others(p.value) {
			p.value.Set(x)
			if likeWords(t, s) {
				rights++
			} else {
				wrongs++
			}
		}
	}
	if rights < 100 || wrongs < 100 {
		t.Error("too few:", rights, wrongs)
	}
}

func TestTreesAtRandom(t *testing.T) {
	m := newMaker(91)
	for range 3000 {
		if !likeWords(t, m.tree()) {
			t.Fatal("not right")
		}
	}
	wrongs := 0
	for range 3000 {
		s := m.tree()
		l := partsOf(&s)
		p := l[m.Intn(len(l))]
		all := others(p.value)
		p.value.Set(all[m.Intn(len(all))])
		if !likeWords(t, s) {
			wrongs++
		}
	}
	if wrongs < 100 {
		t.Error("too few:", wrongs)
	}
}

// fillers are trees whose form has as many bytes as one likes: they fill one group each, and the rest by starts and texts.
func fillers() map[string]func(*api.Spec) {
	word := strings.Repeat("w", api.MaxWord)
	return map[string]func(*api.Spec){
		"uses": func(s *api.Spec) {
			s.Uses = repeated(14, api.Use{Module: word, Names: repeated(256, api.Rename{Name: word, As: "x" + word[1:]})})
		},
		"scanner rules": func(s *api.Spec) {
			re := api.Regex{Kind: api.ReCat, Kids: repeated(2000, set(0x10FFFF))}
			s.Lex = repeated(9, api.LexLine{Mode: "main", Name: word, Re: re})
		},
		"levels": func(s *api.Spec) {
			s.Precs = repeated(30, api.PrecLine{Assoc: api.AssocLeft, Names: repeated(256, word)})
		},
		"types": func(s *api.Spec) {
			ctor := api.Ctor{Name: word, Fields: repeated(16, word)}
			s.Datas = repeated(2, api.DataLine{Data: api.Data{Name: word, Ctors: repeated(200, ctor)}})
		},
		"symbols": func(s *api.Spec) {
			s.Rules = repeated(2, rule(word, repeated(110, api.Alt{Syms: repeated(32, ref(word))})...))
		},
		"arguments": func(s *api.Spec) {
			s.Rules = []api.RuleLine{rule(word, api.Alt{Syms: refs("a", "b"), Act: none()}, api.Alt{Syms: repeated(3, bush(7)), Act: none()})}
		},
		"texts": func(s *api.Spec) {
			s.Rules = []api.RuleLine{rule(word, repeated(15, api.Alt{Act: quoted(strings.Repeat("\x01", 4096))})...)}
		},
		"nodes":      func(s *api.Spec) { s.Rules = []api.RuleLine{rule(word, repeated(4, api.Alt{Act: actBush(4)})...)} },
		"everything": func(s *api.Spec) { *s = plainTree() },
	}
}

// bush is a symbol of 4 arguments, each likewise, so many levels deep.
func bush(levels int) api.Ref {
	if levels == 0 {
		return ref("x")
	}
	return ref("y", repeated(4, bush(levels-1))...)
}

// actBush is a node of 10 kids, each likewise, so many levels deep.
func actBush(levels int) api.Act {
	if levels == 0 {
		return node("x")
	}
	return node("y", repeated(10, actBush(levels-1))...)
}

// filled is a tree whose form has so many bytes.
func filled(t testing.TB, fill func(*api.Spec), bytes int) api.Spec {
	t.Helper()
	s := api.Spec{Name: "M"}
	fill(&s)
	// Rules of one alternative "qqq": their texts have as many bytes as are left.
	frame := len("\nrule z\n\t= => \"\"\n\t;\n")
	left := bytes - len(laid("spec", s))
	for left > 0 {
		take := min(left-frame, 4096)
		if rest := left - frame - take; rest > 0 && rest < frame {
			take -= frame
		}
		if take < 0 {
			t.Fatal("the test is wrong: no room", left)
		}
		s.Rules = append(s.Rules, rule("z", api.Alt{Act: quoted(strings.Repeat("q", take))}))
		left -= frame + take
	}
	return s
}

// P9.1: a form of just MaxSource bytes, and one more.
func TestLongForms(t *testing.T) {
	for name, fill := range fillers() {
		for _, bytes := range []int{api.MaxSource - 1, api.MaxSource, api.MaxSource + 1, api.MaxSource + 20000} {
			s := filled(t, fill, bytes)
			want, wantE := laid("spec", s), api.OK
			if len(want) != bytes || !spec.Right(s) {
				t.Fatal("the test is wrong", name, bytes, len(want))
			}
			if bytes > api.MaxSource {
				want, wantE = "", api.ErrLong
			}
			if form, e := print.Spec(s); form != want || e != wantE {
				t.Error(name, bytes, len(form), e)
			}
			s.Starts = []string{"rule"}
			refusedTree(t, s) // of a long one that is wrong, too
		}
	}
}

// Forms that are far too long are given up: what comes is not gone over to its end.
func TestVeryLongForms(t *testing.T) {
	alt := api.Alt{Act: node("N", repeated(16, quoted(strings.Repeat("\x01", 4096)))...)}
	s := api.Spec{Name: "M", Rules: repeated(256, rule("r", repeated(256, alt)...))}
	if form, e := print.Spec(s); form != "" || e != api.ErrLong {
		t.Error(len(form), e)
	}
	re := api.Regex{Kind: api.ReCat, Kids: repeated(2047, set(0x10FFFF))}
	s = api.Spec{Name: "M", Lex: repeated(256, api.LexLine{Mode: "main", Re: re})}
	if form, e := print.Spec(s); form != "" || e != api.ErrLong {
		t.Error(len(form), e)
	}
	s = api.Spec{Name: "M", Rules: []api.RuleLine{rule("r", api.Alt{Syms: refs("a"), Act: node("N")}, api.Alt{Syms: []api.Ref{bush(10)}})}}
	if form, e := print.Spec(s); form != "" || e != api.ErrLong {
		t.Error(len(form), e)
	}
}

// As many of each as may be have a form; one more is no tree.
func TestManyParts(t *testing.T) {
	r := rand.New(rand.NewSource(92))
	for _, c := range []struct {
		most int
		fill func(*api.Spec, int)
	}{
		{256, func(s *api.Spec, n int) { s.Uses = repeated(n, s.Uses[0]) }},
		{256, func(s *api.Spec, n int) { s.Lex = repeated(n, s.Lex[0]) }},
		{256, func(s *api.Spec, n int) { s.Precs = repeated(n, s.Precs[0]) }},
		{256, func(s *api.Spec, n int) { s.Datas = repeated(n, s.Datas[0]) }},
		{256, func(s *api.Spec, n int) { s.Rules = repeated(n, s.Rules[0]) }},
		{256, func(s *api.Spec, n int) { s.Starts = repeated(n, "s") }},
		{256, func(s *api.Spec, n int) { s.Uses[0].Names = repeated(n, api.Rename{Name: "a", As: "a"}) }},
		{256, func(s *api.Spec, n int) { s.Precs[0].Names = repeated(n, "a") }},
		{256, func(s *api.Spec, n int) { s.Datas[0].Data.Ctors = repeated(n, api.Ctor{Name: "C"}) }},
		{256, func(s *api.Spec, n int) { s.Rules[0].Alts = repeated(n, api.Alt{}) }},
		{32, func(s *api.Spec, n int) { s.Rules[0].Alts[0].Syms = repeated(n, ref("a")) }},
		{4, func(s *api.Spec, n int) { s.Rules[0].Params = repeated(n, "p") }},
		{4, func(s *api.Spec, n int) { s.Rules[0].Alts[0].Syms[0].Args = repeated(n, ref("a")) }},
		{16, func(s *api.Spec, n int) { s.Datas[0].Data.Ctors[0].Fields = repeated(n, "D") }},
		{16, func(s *api.Spec, n int) { s.Rules[0].Alts[0].Act.Kids = repeated(n, pick(r.Intn(2))) }},
	} {
		s := plainTree()
		c.fill(&s, c.most)
		if !likeWords(t, s) {
			t.Error(c.most)
		}
		thereAndBack(t, s)
		c.fill(&s, c.most+1)
		refusedTree(t, s)
	}
}
