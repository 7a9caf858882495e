package spec_test

import (
	"math/rand"
	"reflect"
	"strings"
	"testing"

	"quoin/api"
	"quoin/regex"
	"quoin/spec"
)

// Q2: Right, Same, Word, Key.

// Trees at random are right, and their texts have them; one part of each is made another one.
func TestRightAtRandom(t *testing.T) {
	m := maker{rand.New(rand.NewSource(81))}
	rights, wrongs := 0, 0
	for range 40 {
		s := m.tree()
		if !mayBe(s) || !spec.Right(s) {
			t.Fatal(told(s, false))
		}
		src, _ := write(s)
		if is, sure := isSame(parsed(t, src), s); !is || !sure {
			t.Fatal("not the same", src)
		}
		for _, p := range partsOf(&s) {
			for _, x := range others(p.value) {
				if m.Intn(4) > 0 && (x.Kind() == reflect.Slice && x.Len() > 4 || !strings.Contains(p.path, "Act")) {
					continue // not all of them: they are many
				}
				before := p.value.Interface()
				p.value.Set(x)
				want := mayBe(s)
				if p.place && !want {
					t.Fatal("the test is wrong: a place")
				}
				if spec.Right(s) != want {
					t.Fatalf("%s: %v %v: %v", told(s, false), p.path, x, !want)
				}
				if want {
					rights++
				} else {
					wrongs++
				}
				p.value.Set(reflect.ValueOf(before))
			}
		}
	}
	if rights < 5000 || wrongs < 5000 {
		t.Error("too few:", rights, wrongs)
	}
}

// plainTree has one of everything.
func plainTree() api.Spec {
	a := api.Regex{Kind: api.ReSet, Set: []api.Range{{Lo: 'a', Hi: 'a'}}}
	return api.Spec{
		Name:  "M",
		Uses:  []api.Use{{Module: "U", Names: []api.Rename{{Name: "a", As: "b"}}, At: 1}},
		Lex:   []api.LexLine{{Mode: "main", Name: "T", Re: a, Push: "in", Pop: true, At: 2}},
		Precs: []api.PrecLine{{Assoc: api.AssocLeft, Names: []string{"T"}, At: 3}},
		Datas: []api.DataLine{{Data: api.Data{Name: "D", Ctors: []api.Ctor{{Name: "N", Fields: []string{"D"}}}}, At: 4}},
		Rules: []api.RuleLine{{Name: "r", Open: true, Inline: true, Params: []string{"p"}, Type: "D", At: 5,
			Alts: []api.Alt{{Syms: []api.Ref{{Name: "p", Args: []api.Ref{{Name: "x", At: 8}}, At: 7}, {Name: "y"}}, Prec: "T", At: 6,
				Act: api.Act{Kind: api.ActNode, Name: "N", Kids: []api.Act{{Kind: api.ActPick, At: 1}, {Kind: api.ActText, Name: "q"}, {}}}}}}},
		Starts: []string{"r"},
	}
}

func TestRightOfOneChange(t *testing.T) {
	if !spec.Right(plainTree()) || spec.Right(api.Spec{}) || !spec.Right(api.Spec{Name: "M"}) {
		t.Fatal("not right")
	}
	alt := func(s *api.Spec) *api.Alt { return &s.Rules[0].Alts[0] }
	act := func(a api.Act) func(*api.Spec) { return func(s *api.Spec) { alt(s).Act = a } }
	kid := func(a api.Act) func(*api.Spec) { return func(s *api.Spec) { alt(s).Act.Kids[0] = a } }
	for _, c := range []struct {
		name   string
		change func(*api.Spec)
		want   bool
	}{
		{"an As that is empty", func(s *api.Spec) { s.Uses[0].Names[0].As = "" }, false},
		{"an As that is the name", func(s *api.Spec) { s.Uses[0].Names[0].As = "a" }, true},
		{"a Use without Names", func(s *api.Spec) { s.Uses[0].Names = []api.Rename{} }, true},
		{"a line without a mode", func(s *api.Spec) { s.Lex[0].Mode = "" }, false},
		{"a Skip", func(s *api.Spec) { s.Lex[0].Name = "" }, true},
		{"a Push that is a key", func(s *api.Spec) { s.Lex[0].Push = "pop" }, false},
		{"no Push", func(s *api.Spec) { s.Lex[0].Push = "" }, true},
		{"an expression that is none", func(s *api.Spec) { s.Lex[0].Re.Kind = 8 }, false},
		{"an expression that is not in its one form", func(s *api.Spec) { s.Lex[0].Re = api.Regex{Kind: api.ReCat, Kids: []api.Regex{s.Lex[0].Re}} }, false},
		{"an expression of no rune", func(s *api.Spec) { s.Lex[0].Re = api.Regex{} }, true},
		{"an Assoc of none", func(s *api.Spec) { s.Precs[0].Assoc = api.AssocNone }, false},
		{"an Assoc below 0", func(s *api.Spec) { s.Precs[0].Assoc = -1 }, false},
		{"an Assoc that is none", func(s *api.Spec) { s.Precs[0].Assoc = 4 }, false},
		{"AssocNot", func(s *api.Spec) { s.Precs[0].Assoc = api.AssocNot }, true},
		{"a level of none", func(s *api.Spec) { s.Precs[0].Names = nil }, false},
		{"a type of no constructors", func(s *api.Spec) { s.Datas[0].Data.Ctors = nil }, false},
		{"a constructor of no fields", func(s *api.Spec) { s.Datas[0].Data.Ctors[0].Fields = nil }, true},
		{"a rule of no alternatives", func(s *api.Spec) { s.Rules[0].Alts = nil }, false},
		{"a rule without parameters and type", func(s *api.Spec) { s.Rules[0].Params, s.Rules[0].Type = nil, "" }, true},
		{"a symbol without arguments", func(s *api.Spec) { alt(s).Syms[0].Args = []api.Ref{} }, true},
		{"an argument that is a key", func(s *api.Spec) { alt(s).Syms[0].Args[0].Name = "prec" }, false},
		{"no Prec", func(s *api.Spec) { alt(s).Prec = "" }, true},
		{"a Prec that is none", func(s *api.Spec) { alt(s).Prec = "1" }, false},
		{"none with At", act(api.Act{At: 1}), false},
		{"none with a name", act(api.Act{Name: "N"}), false},
		{"none with kids", act(api.Act{Kids: []api.Act{{}}}), false},
		{"none with a list that is empty", act(api.Act{Kids: []api.Act{}}), true},
		{"a pick of the last", act(api.Act{Kind: api.ActPick, At: 1}), true},
		{"a pick behind the last", act(api.Act{Kind: api.ActPick, At: 2}), false},
		{"a pick below 0", act(api.Act{Kind: api.ActPick, At: -1}), false},
		{"a pick with a name", act(api.Act{Kind: api.ActPick, Name: "N"}), false},
		{"a pick with kids", act(api.Act{Kind: api.ActPick, Kids: []api.Act{{}}}), false},
		{"a pick behind the last, within", kid(api.Act{Kind: api.ActPick, At: 2}), false},
		{"a pick of no symbols", func(s *api.Spec) { alt(s).Syms, alt(s).Act = nil, api.Act{Kind: api.ActPick} }, false},
		{"a text", act(api.Act{Kind: api.ActText, Name: "\xff"}), true},
		{"a text of nothing", act(api.Act{Kind: api.ActText}), true},
		{"a text with At", act(api.Act{Kind: api.ActText, At: 1}), false},
		{"a text with kids", act(api.Act{Kind: api.ActText, Kids: []api.Act{{}}}), false},
		{"a long text", act(api.Act{Kind: api.ActText, Name: strings.Repeat("\x01", api.MaxQuote)}), true},
		{"too long a text", act(api.Act{Kind: api.ActText, Name: strings.Repeat("q", api.MaxQuote+1)}), false},
		{"a node with At", act(api.Act{Kind: api.ActNode, Name: "N", At: 1}), false},
		{"a node without a name", act(api.Act{Kind: api.ActNode}), false},
		{"a node that is a key", act(api.Act{Kind: api.ActNode, Name: "as"}), false},
		{"a node that is _", act(api.Act{Kind: api.ActNode, Name: "_"}), false},
		{"a kind below 0", act(api.Act{Kind: -1}), false},
		{"a kind that is none", act(api.Act{Kind: 4}), false},
		{"a kid that is none", kid(api.Act{Kind: 4}), false},
	} {
		s := plainTree()
		c.change(&s)
		if spec.Right(s) != c.want || mayBe(s) != c.want {
			t.Error(c.name, spec.Right(s), mayBe(s))
		}
	}
}

// Each name of a tree is made what no name is.
func TestRightOfNames(t *testing.T) {
	names := 0
	for i := range partsOf(new(plainTree())) {
		s := plainTree()
		p := partsOf(&s)[i]
		if p.value.Kind() != reflect.String || strings.Contains(p.path, "Kids[") { // these are no nodes
			continue
		}
		names++
		for _, x := range append([]string{"_", "9a", "a b", "a.", "é", "\xff", strings.Repeat("a", 33)}, keys...) {
			p.value.SetString(x)
			if spec.Right(s) {
				t.Error(p.path, x)
			}
		}
		for _, x := range []string{"a", "__", "_9", "error", "text", "main", strings.Repeat("a", 32)} {
			p.value.SetString(x)
			if !spec.Right(s) {
				t.Error(p.path, x)
			}
		}
	}
	if names != 20 {
		t.Error(names)
	}
}

// repeated is a list of so many of one thing.
func repeated[T any](many int, x T) []T {
	var l []T
	for range many {
		l = append(l, x)
	}
	return l
}

// As many of each as Q1 has, and one more; however long their text would be.
func TestRightLimits(t *testing.T) {
	for name, c := range map[string]struct {
		most int
		fill func(*api.Spec, int)
	}{
		"Uses":   {256, func(s *api.Spec, n int) { s.Uses = repeated(n, s.Uses[0]) }},
		"Lex":    {256, func(s *api.Spec, n int) { s.Lex = repeated(n, s.Lex[0]) }},
		"Precs":  {256, func(s *api.Spec, n int) { s.Precs = repeated(n, s.Precs[0]) }},
		"Datas":  {256, func(s *api.Spec, n int) { s.Datas = repeated(n, s.Datas[0]) }},
		"Rules":  {256, func(s *api.Spec, n int) { s.Rules = repeated(n, s.Rules[0]) }},
		"Starts": {256, func(s *api.Spec, n int) { s.Starts = repeated(n, "s") }},
		"Names":  {256, func(s *api.Spec, n int) { s.Uses[0].Names = repeated(n, api.Rename{Name: "a", As: "a"}) }},
		"words":  {256, func(s *api.Spec, n int) { s.Precs[0].Names = repeated(n, "a") }},
		"Ctors":  {256, func(s *api.Spec, n int) { s.Datas[0].Data.Ctors = repeated(n, api.Ctor{Name: "C"}) }},
		"Alts":   {256, func(s *api.Spec, n int) { s.Rules[0].Alts = repeated(n, api.Alt{}) }},
		"Syms":   {32, func(s *api.Spec, n int) { s.Rules[0].Alts[0].Syms = repeated(n, api.Ref{Name: "a"}) }},
		"Params": {4, func(s *api.Spec, n int) { s.Rules[0].Params = repeated(n, "p") }},
		"Args":   {4, func(s *api.Spec, n int) { s.Rules[0].Alts[0].Syms[0].Args = repeated(n, api.Ref{Name: "a"}) }},
		"Fields": {16, func(s *api.Spec, n int) { s.Datas[0].Data.Ctors[0].Fields = repeated(n, "D") }},
		"Kids":   {16, func(s *api.Spec, n int) { s.Rules[0].Alts[0].Act.Kids = repeated(n, api.Act{}) }},
		"picks": {16, func(s *api.Spec, n int) {
			s.Rules[0].Alts[0].Act.Kids[2] = api.Act{Kind: api.ActNode, Name: "N", Kids: repeated(n, api.Act{Kind: api.ActPick})}
		}},
	} {
		s := plainTree()
		c.fill(&s, c.most)
		if !spec.Right(s) || !mayBe(s) {
			t.Error(name)
		}
		c.fill(&s, c.most+1)
		if spec.Right(s) || mayBe(s) {
			t.Error(name, "one more")
		}
	}
	long := plainTree()
	long.Rules[0].Alts[0].Act = api.Act{Kind: api.ActText, Name: strings.Repeat("q", api.MaxQuote)}
	long.Rules[0].Alts = repeated(256, long.Rules[0].Alts[0])
	if src, _ := write(long); len(src) <= api.MaxSource || !spec.Right(long) {
		t.Error("a long one is not right")
	}
}

func TestRightLevels(t *testing.T) {
	for levels := 60; levels < 70; levels++ {
		s := plainTree()
		r, a := api.Ref{Name: "x"}, api.Act{Kind: api.ActNode, Name: "N"}
		for range levels {
			r = api.Ref{Name: "x", Args: []api.Ref{{Name: "y"}, r}}
			a = api.Act{Kind: api.ActNode, Name: "N", Kids: []api.Act{{}, a, {Kind: api.ActPick}}}
		}
		s.Rules[0].Alts[0].Syms[1] = r
		if is := levels <= 64; spec.Right(s) != is || mayBe(s) != is {
			t.Error("symbols", levels)
		}
		s = plainTree()
		s.Rules[0].Alts[0].Act = a
		if is := levels <= 64; spec.Right(s) != is || mayBe(s) != is {
			t.Error("actions", levels)
		}
	}
	// No list, or an empty one, opens no level.
	s := plainTree()
	r, a := api.Ref{Name: "x", Args: []api.Ref{}}, api.Act{Kind: api.ActNode, Name: "N", Kids: []api.Act{}}
	for range api.MaxNest {
		r = api.Ref{Name: "x", Args: []api.Ref{r}}
		a = api.Act{Kind: api.ActNode, Name: "N", Kids: []api.Act{a}}
	}
	s.Rules[0].Alts[0] = api.Alt{Syms: []api.Ref{r}, Act: a}
	if !spec.Right(s) {
		t.Error("empty lists open a level")
	}
}

// An expression with as many parts as may be is written shortly enough; one more is not right.
func TestRightOfGreatExpressions(t *testing.T) {
	for _, many := range []int{2047, 2048} {
		kid := api.Regex{Kind: api.ReSet, Set: []api.Range{{Lo: 0x10FFFE, Hi: 0x10FFFF}}}
		s := plainTree()
		s.Lex[0].Re = api.Regex{Kind: api.ReCat, Kids: repeated(many, kid)}
		if is := many == 2047; spec.Right(s) != is || regex.Right(s.Lex[0].Re) != is {
			t.Error(many)
		}
	}
	deep := api.Regex{Kind: api.ReSet, Set: []api.Range{{Lo: 'a', Hi: 'a'}}}
	for n := 2; n <= api.MaxNest+2; n++ {
		deep = api.Regex{Kind: api.ReNot, Kids: []api.Regex{deep}}
		if n%2 == 1 {
			deep.Kind = api.ReStar
		}
		s := plainTree()
		s.Lex[0].Re = deep
		if is := n <= api.MaxNest; spec.Right(s) != is {
			t.Error(n)
		}
	}
}

func TestWordAndKey(t *testing.T) {
	for _, k := range keys {
		if !spec.Key(k) || spec.Word(k) {
			t.Error(k)
		}
		for _, s := range []string{k + "x", "x" + k, "_" + k, k + "_", k + " ", " " + k, strings.ToUpper(k), k[1:], k[:len(k)-1], k + k} {
			isWord := !strings.Contains(s, " ") && s != "_" && s != ""
			if spec.Key(s) || spec.Word(s) != isWord {
				t.Error(s)
			}
		}
	}
	if len(keys) != 17 {
		t.Error(len(keys))
	}
	for s, want := range map[string]bool{"": false, "_": false, "__": true, "_a": true, "a_": true, "_9": true, "9": false, "9a": false, "a9": true, "a": true, "Z": true, "é": false, "aé": false,
		"a b": false, "a\n": false, "a\x00": false, "\xff": false, "error": true, "text": true, "main": true, "end": true, "expression": true, "word": true, "use as": false,
		"@": false, "[": false, "`": false, "{": false, "/": false, ":": false, "=": false, "\"a\"": false,
		strings.Repeat("_", 32): true, strings.Repeat("_", 33): false, strings.Repeat("a", 1<<20): false, "a" + strings.Repeat("9", 31): true} {
		if spec.Word(s) != want || spec.Key(s) {
			t.Errorf("%q", s)
		}
	}
	for b := range 256 {
		one := string([]byte{byte(b)})
		isLetter := b >= 'a' && b <= 'z' || b >= 'A' && b <= 'Z'
		isSign := isLetter || b >= '0' && b <= '9' || b == '_'
		if spec.Word(one) != isLetter || spec.Word("x"+one+"x") != isSign || spec.Word(one+"x") != (isLetter || b == '_') || spec.Key(one) {
			t.Error(b)
		}
	}
}

// What is just a word, by Word, is one token where a word must stand; nothing else is.
func TestWordsAreTokens(t *testing.T) {
	for _, s := range append(append([]string{"é", "a b", " a", "a//", "//", "a;", "9", "\"q\""}, pool...), samples...) {
		m, f := spec.Parse("module " + s + "\n;")
		if is := f == (api.Fault{}) && m.Name == s; spec.Word(s) != is {
			t.Errorf("%q", s)
		}
	}
}
