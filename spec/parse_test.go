package spec_test

import (
	"math/rand"
	"slices"
	"strings"
	"testing"

	"quoin/api"
	"quoin/spec"
)

// Q1: Parse: the tree, or what is wrong first. Q4: what Parse tells is Right (likeWords asks it of all trees).

// samples are modules in which each part that may be left out is told, and left out.
var samples = []string{
	"module M;",
	"module _m9;use A;use B(a);use C(a,b as c,d as d);",
	"module M; token A = \"a\"; token B = [b] | !\"x\" pop; token C = .+ push in; token D = (\"a\" & .)* pop push in;",
	"module M; skip = [ ]; skip = \" \" pop; skip = \" \"{2,3} push in; skip = .? pop push in;",
	"module M; mode a; token A = \"a\"; mode b; mode c; skip = .; mode main; token B = \"b\"; mode a; skip = \"c\";",
	"module M; left a; right a b; none a b a; left a;",
	"module M; type A = B; type C = D(E) | F | G(H, H, text);",
	"module M; rule a = ; rule b = | ; rule c = a | a b | ; open rule d = a; inline rule e = a; open inline rule f = a;",
	"module M; rule a(p) = p; rule b(p, q): T = p(q) q(p, p(q), a); rule c: T = ;",
	"module M; rule a = b prec C | prec C | b => _ | => _ | b prec C => $1 | prec C => N | b c prec D => $2;",
	"module M; rule a = a b c => $3 | a => $1 | => \"\" | => \"x\\n\\x00\\u{e9}\" | => N(_) | a(b) c => N($1, _, \"t\", M, M(N($2)), _);",
	"module M; start a; start b c; start a;",
	"// a remark\nmodule M // and one\n;// ; ; ;\n\trule r = a\r\n b; // the last one",
	"module M; token A = \"a\"+ push in; mode in; skip = [ ]; rule r: T = A r => N($1, $2) | ; start r;",
	"module error; use text; token error = \"e\"; rule text(main) = error; start main; left error; type text = error(text);",
}

func TestSamples(t *testing.T) {
	for _, s := range samples {
		if !likeWords(t, s) {
			t.Error(s)
		}
	}
}

// TestTree has a whole tree, with its places, by hand.
func TestTree(t *testing.T) {
	a, b := api.Range{Lo: 'a', Hi: 'a'}, api.Range{Lo: 'b', Hi: 'b'}
	setA, setB := api.Regex{Kind: api.ReSet, Set: []api.Range{a}}, api.Regex{Kind: api.ReSet, Set: []api.Range{b}}
	s := `module M; use L (x, y as z); use K; token A = "a" pop push in; none A B; mode in; skip = [b];` +
		`type T = N(T, text) | E; start r; open inline rule r(p, q): T = p(q, A) prec B => N($1, "t") | | s | => _; start s r;`
	want := api.Spec{
		Name: "M",
		Uses: []api.Use{
			{Module: "L", Names: []api.Rename{{Name: "x", As: "x"}, {Name: "y", As: "z"}}, At: 10},
			{Module: "K", At: 29},
		},
		Lex: []api.LexLine{
			{Mode: "main", Name: "A", Re: setA, Push: "in", Pop: true, At: 36},
			{Mode: "in", Re: setB, At: 82},
		},
		Precs: []api.PrecLine{{Assoc: api.AssocNot, Names: []string{"A", "B"}, At: 63}},
		Datas: []api.DataLine{{Data: api.Data{Name: "T", Ctors: []api.Ctor{{Name: "N", Fields: []string{"T", "text"}}, {Name: "E"}}}, At: 93}},
		Rules: []api.RuleLine{{
			Name: "r", Open: true, Inline: true, Params: []string{"p", "q"}, Type: "T", At: 144,
			Alts: []api.Alt{
				{
					Syms: []api.Ref{{Name: "p", Args: []api.Ref{{Name: "q", At: 159}, {Name: "A", At: 162}}, At: 157}},
					Prec: "B",
					Act:  api.Act{Kind: api.ActNode, Name: "N", Kids: []api.Act{{Kind: api.ActPick}, {Kind: api.ActText, Name: "t"}}},
					At:   157,
				},
				{At: 188},
				{Syms: []api.Ref{{Name: "s", At: 190}}, Act: api.Act{Kind: api.ActPick}, At: 190},
				{At: 194},
			},
		}},
		Starts: []string{"r", "s", "r"},
	}
	if got := parsed(t, s); told(got, true) != told(want, true) {
		t.Errorf("%s\nwant\n%s", told(got, true), told(want, true))
	}
	if got, _ := read(s); told(got, true) != told(want, true) {
		t.Errorf("by the words: %s", told(got, true))
	}
}

// pool has tokens of all sorts, and what is none.
var pool = append(slices.Clone(keys), "a", "main", "error", "_x", "__", "_", "=>", "=", ";", ",", "(", ")", "|", ":", "$",
	"0", "1", "2", "01", "99999999999999999999999", `"q"`, `""`, `"\"`, `"a`, "%", "/", "[", "[a]", ".", "!", "\x00", "\xff", "é",
	"a"+strings.Repeat("b", 31), "a"+strings.Repeat("b", 32), "// ", "// \n", "", "1a", "$1", "=>>", "==", "=>=>", "a(b)", "a;")

// Each token is left out, replaced by each of the pool, has each of the pool ahead of it, and the text ends ahead of it and behind it.
func TestEachTokenWrong(t *testing.T) {
	for _, s := range samples {
		p, _ := whole(s)
		for _, k := range p.tokens() {
			likeWords(t, s[:k.at])
			likeWords(t, s[:k.end])
			likeWords(t, s[:k.at]+s[k.end:])
			for _, x := range pool {
				likeWords(t, s[:k.at]+x+s[k.end:])
				likeWords(t, s[:k.at]+" "+x+" "+s[k.end:])
				likeWords(t, s[:k.at]+x+" "+s[k.at:])
				likeWords(t, s[:k.end]+x+s[k.end:])
			}
		}
	}
}

// The texts that come of samples by some changes, at random.
func TestChangedTexts(t *testing.T) {
	r := rand.New(rand.NewSource(8))
	all, right := strings.Join(samples, ""), 0
	for range 60000 {
		s := samples[r.Intn(len(samples))]
		for range 1 + r.Intn(3) {
			from := r.Intn(len(s) + 1)
			to := min(len(s), from+r.Intn(4))
			if r.Intn(2) == 0 {
				to = from
			}
			x := pool[r.Intn(len(pool))]
			if r.Intn(2) == 0 {
				at := r.Intn(len(all) - 20)
				x = all[at : at+r.Intn(20)]
			}
			s = s[:from] + x + s[to:]
		}
		if likeWords(t, s) {
			right++
		}
	}
	if right < 3000 {
		t.Error("too few modules:", right)
	}
}

// Texts of all short rows of tokens behind a beginning.
func TestShortTexts(t *testing.T) {
	few := []string{"a", "rule", "=", "=>", "|", ";", "(", ")", ",", "$", "1", "_", `"q"`, ":", "prec"}
	for _, s := range []string{"", "module M;", "module M; rule r", "module M; rule r = a ", "module M; rule r = a => ", "module M; use ", "module M; type T ", "module M; left "} {
		for _, x := range few {
			for _, y := range few {
				for _, z := range few {
					likeWords(t, s+" "+x+" "+y+" "+z)
					likeWords(t, s+" "+x+" "+y+" "+z+";")
				}
			}
		}
	}
}

// Nothing, and nothing but gaps: what is wrong is the end.
func TestNothing(t *testing.T) {
	for _, s := range []string{"", " ", "\n", "\t\r\n  ", "//", "// module M;", "// \n", "//\n//", "\n// ;\n \n"} {
		refused(t, s, api.ErrSpec, len(s))
	}
	refused(t, "/", api.ErrForm, 0)
	refused(t, " / / module M;", api.ErrForm, 1)
	if m := parsed(t, "//\nmodule//\n//\nM//;\n;//"); m.Name != "M" {
		t.Error(m)
	}
}

func TestTooLong(t *testing.T) {
	module := "module M;"
	for _, fill := range []string{" ", "/", "\n"} {
		s := module + "//" + strings.Repeat(fill, api.MaxSource-len(module)-2)
		if fill == "\n" {
			s = module + "//" + strings.Repeat(" ", api.MaxSource-len(module)-3) + fill
		}
		if len(s) != api.MaxSource {
			t.Fatal(len(s))
		}
		parsed(t, s)
		refused(t, s+fill, api.ErrLong, 0)
	}
	refused(t, strings.Repeat("%", api.MaxSource), api.ErrForm, 0)
	refused(t, strings.Repeat("%", api.MaxSource+1), api.ErrLong, 0)
	refused(t, strings.Repeat("\n", api.MaxSource), api.ErrSpec, api.MaxSource)
}

// A key is no word, and a word no key.
func TestKeysAndWords(t *testing.T) {
	places := []string{"module ~;", "module M; use ~;", "module M; use U (~);", "module M; use U (a, ~);", "module M; use U (a as ~);", "module M; mode ~;",
		"module M; token ~ = \"a\";", "module M; token T = \"a\" push ~;", "module M; left ~;", "module M; left a ~;", "module M; type ~ = C;", "module M; type T = ~;",
		"module M; type T = C(~);", "module M; type T = C(a, ~);", "module M; type T = C | ~;", "module M; rule ~ = a;", "module M; rule r(~) = a;", "module M; rule r(p, ~) = a;",
		"module M; rule r: ~ = a;", "module M; rule r = a(~);", "module M; rule r = a(b, ~);", "module M; rule r = prec ~;", "module M; rule r = => N(~);",
		"module M; start ~;", "module M; start a ~;"}
	for _, p := range places {
		at := strings.Index(p, "~")
		for _, key := range append([]string{"_", "1", ",", "\"q\""}, keys...) {
			isAct := strings.Contains(p, "=> N(~)") && (key == "_" || key == "\"q\"")
			if !isAct {
				refused(t, strings.Replace(p, "~", key, 1), api.ErrSpec, at)
			}
		}
		for _, w := range []string{"a", "_a", "__", "a_", "A9", "modules", "Module", "mod", "error", "text", "main", "end", "a" + strings.Repeat("9", 31)} {
			parsed(t, strings.Replace(p, "~", w, 1))
		}
		refused(t, strings.Replace(p, "~", "a"+strings.Repeat("9", 32), 1), api.ErrWord, at)
	}
	for _, s := range []string{"~ M;", "module M; ~ a;", "module M; ~ = \"a\";", "module M; open ~ r = a;", "module M; token A = \"a\" ~;", "module M; use U (a ~ b);"} {
		for _, w := range []string{"a", "_a", "use_", "Use", "error"} {
			refused(t, strings.Replace(s, "~", w, 1), api.ErrSpec, strings.Index(s, "~"))
		}
	}
}

// What is wrong first with one token: a quote, a byte, a word's length come ahead of its place in the grammar.
func TestOrderOfOneToken(t *testing.T) {
	long := "a" + strings.Repeat("b", 32)
	for _, ahead := range []string{"", "module", "module ", "module M", "module M;", "module M; rule", "module M; rule r", "module M; rule r = a => ", "module M; token A", "module M; token A = \"a\" ", "module M; left a ", "module M; use U("} {
		at := len(ahead)
		refused(t, ahead+"\"", api.ErrQuote, at)
		refused(t, ahead+"\"a\n\"", api.ErrQuote, at)
		refused(t, ahead+"\"\\q\"", api.ErrQuote, at)
		for _, b := range []string{"%", "/", "\x00", "\x7f", "\xff", "[", "]", "{", "}", "*", "+", "?", ".", "!", "&", "-", "<", ">", "'", "`", "\\", "@", "#", "^", "~", "é"} {
			if !strings.Contains(ahead, "token A = ") { // where an expression may go on
				refused(t, ahead+b, api.ErrForm, at)
			}
		}
		if strings.HasSuffix(ahead, "module") || strings.HasSuffix(ahead, "rule") || strings.HasSuffix(ahead, "M") || strings.HasSuffix(ahead, "r") || strings.HasSuffix(ahead, "A") {
			continue // a word would go on there
		}
		refused(t, ahead+long, api.ErrWord, at)
		refused(t, ahead+long+"%\"", api.ErrWord, at)
	}
	refused(t, "module M; rule r = a => \""+strings.Repeat("x", api.MaxQuote+1)+"\";", api.ErrQuote, 24)
	if m := parsed(t, "module M; rule r = a => \""+strings.Repeat("x", api.MaxQuote)+"\";"); len(m.Rules[0].Alts[0].Act.Name) != api.MaxQuote {
		t.Error("a quoted text is cut")
	}
	refused(t, "module M; rule r = \"q\";", api.ErrSpec, 19)
	refused(t, "module M; \"module\"", api.ErrSpec, 10)
	refused(t, "\"module\" M;", api.ErrSpec, 0)
	refused(t, "module M\";\"", api.ErrSpec, 8)
	refused(t, "module M; rule r \"=\" a;", api.ErrSpec, 17)
	refused(t, "module M; rule r = N => a \"(\" b);", api.ErrSpec, 26)
	refused(t, "module M; rule r = a => \"$\" 1;", api.ErrSpec, 28)
}

// = and => are two signs, however they stand together.
func TestEquals(t *testing.T) {
	refused(t, "module M; token A => \"a\";", api.ErrSpec, 18)
	refused(t, "module M; skip => \"a\";", api.ErrSpec, 15)
	refused(t, "module M; type T => A;", api.ErrSpec, 17)
	refused(t, "module M; rule r => a;", api.ErrSpec, 17)
	refused(t, "module M; rule r = a = > b;", api.ErrSpec, 21)
	refused(t, "module M; rule r = a =", api.ErrSpec, 21)
	refused(t, "module M; rule r = = a;", api.ErrSpec, 19)
	refused(t, "module M; rule r = > a;", api.ErrForm, 19)
	if m := parsed(t, "module M; rule r==>a;"); len(m.Rules[0].Alts[0].Syms) != 0 || m.Rules[0].Alts[0].Act.Name != "a" {
		t.Error(m)
	}
}

// Expressions are layer 4's, from the byte at which the next token would begin, and so are their faults.
func TestExpressions(t *testing.T) {
	for _, ahead := range []string{"module M; token A =", "module M; skip =", "module M; token A = ", "module M; skip = // \" \n\t // [ \r\n "} {
		at := len(ahead)
		for _, c := range []struct {
			s   string
			why api.Errno
			at  int
		}{
			{";", api.ErrForm, 0}, {"a", api.ErrForm, 0}, {"pop", api.ErrForm, 0}, {"%", api.ErrForm, 0}, {"a" + strings.Repeat("b", 32), api.ErrForm, 0},
			{"|", api.ErrForm, 0}, {"/", api.ErrForm, 0}, {"=> \"a\";", api.ErrForm, 0}, {"1", api.ErrForm, 0}, {"\xff", api.ErrForm, 0},
			{"\"", api.ErrQuote, 0}, {"\"a;", api.ErrQuote, 0}, {"\"\\xff\";", api.ErrArg, 0},
			{"\"a\" | ;", api.ErrForm, 6}, {"\"a\" \"b", api.ErrQuote, 4}, {"(\"a\";", api.ErrForm, 4}, {"\"a\" | // b\n \"b\";", api.ErrForm, 6},
			{"\"a\"{3,2};", api.ErrArg, 3}, {"\"a\"{256};", api.ErrRepeat, 3}, {"\"a\"{02};", api.ErrForm, 5}, {"[b-a];", api.ErrArg, 1},
			{strings.Repeat("(", 65), api.ErrNest, 64}, {"((.{64}){64}){2}", api.ErrSize, 0}, {"[a", api.ErrForm, 2}, {"!", api.ErrForm, 1},
			{"\"a\";%", api.ErrForm, 4}, {"\"a\" ]", api.ErrForm, 4}, {"\"a\" x;", api.ErrSpec, 4}, {"\"a\" // |\n\"b\";", api.ErrSpec, 9},
			{"\"a\" push pop;", api.ErrSpec, 9}, {"\"a\" push in pop;", api.ErrSpec, 12}, {"\"a\" pop pop;", api.ErrSpec, 8}, {"\"a\"", api.ErrSpec, 3}, {"\"a\" ", api.ErrSpec, 4},
		} {
			if _, f := read(ahead + c.s); f != (api.Fault{Why: c.why, At: at + c.at}) {
				t.Fatalf("the test is wrong: %q %v", ahead+c.s, f)
			}
			refused(t, ahead+c.s, c.why, at+c.at)
		}
	}
	for s, l := range map[string]api.LexLine{
		"token A=\"a\"pop;":             {Name: "A", Pop: true},
		"token A = \"a\"push x;":        {Name: "A", Push: "x"},
		"skip = [a] pop push x;":        {Pop: true, Push: "x"},
		"skip=// ;\n[a]// \"b\"\n;":     {},
		"skip = [a]\n// |\npop\n;":      {Pop: true},
		"token A = \"a\" // {2}\npop; ": {Name: "A", Pop: true},
	} {
		l.Mode, l.Re = "main", api.Regex{Kind: api.ReSet, Set: []api.Range{{Lo: 'a', Hi: 'a'}}}
		if m := parsed(t, "module M;"+s); told(m.Lex, false) != told([]api.LexLine{l}, false) {
			t.Error(s, m.Lex)
		}
	}
}

// Q1: where an expression must stand, the end is as wrong as a byte that can't stand there: gaps are passed by.
func TestNoExpression(t *testing.T) {
	for _, ahead := range []string{"module M;token t=", "module M; token t =", "module M;skip=", "module M; mode in; skip =", "module M; token A = \"a\"; rule r = A; token B ="} {
		for _, gap := range []string{"", " ", "\t\r\n", "//", "// \"a\"", " // ;\n", "\n//\n// =\r\n "} {
			refused(t, ahead+gap, api.ErrForm, len(ahead+gap))
			refused(t, ahead+gap+"\n;", api.ErrForm, len(ahead+gap)+1)
			refused(t, ahead+gap+"\n\"a\"", api.ErrSpec, len(ahead+gap)+4)
		}
	}
	for _, s := range []string{"module M; token t", "module M; skip", "module M; token t ", "module M; skip // ="} {
		refused(t, s, api.ErrSpec, len(s)) // no expression must stand there yet
	}
}

// A number behind a $.
func TestPicks(t *testing.T) {
	syms := strings.Repeat("a ", api.MaxSyms)
	for many := range api.MaxSyms + 1 {
		ahead := "module M; rule r = " + syms[:2*many] + "=> "
		for _, n := range []string{"0", "00", "01", "001", "033", "34", "99", "18446744073709551617", "9223372036854775808", strings.Repeat("9", 999), strings.Repeat("0", 999) + "1"} {
			refused(t, ahead+"$"+n+";", api.ErrArg, len(ahead)+1)
			refused(t, ahead+"N(_, $ // \n"+n, api.ErrArg, len(ahead)+11)
		}
		for n := 1; n <= api.MaxSyms+1; n++ {
			s := ahead + "N(M($" + itoa(n) + "));"
			if n > many {
				refused(t, s, api.ErrArg, len(ahead)+5)
				continue
			}
			if a := parsed(t, s).Rules[0].Alts[0].Act; a.Kids[0].Kids[0].At != n-1 {
				t.Error(a)
			}
		}
	}
	refused(t, "module M; rule r = a(b, c) => $2;", api.ErrArg, 31) // what stands in ( ) is no symbol of the alternative
	refused(t, "module M; rule r = a b | c => $2;", api.ErrArg, 31)
	refused(t, "module M; rule r = a => $;", api.ErrSpec, 25)
	refused(t, "module M; rule r = a => $a;", api.ErrSpec, 25)
	refused(t, "module M; rule r = a => $$1;", api.ErrSpec, 25)
	refused(t, "module M; rule r = a => 1;", api.ErrSpec, 24)
	refused(t, "module M; rule r = a => $1a;", api.ErrSpec, 26)
	refused(t, "module M; rule r = a => $-1;", api.ErrForm, 25)
}

// The action that is meant, if none is told.
func TestNoAction(t *testing.T) {
	for s, want := range map[string]api.Act{
		"":                {},
		"prec P":          {},
		"a":               {Kind: api.ActPick},
		"a(b, c)":         {Kind: api.ActPick},
		"a prec P":        {Kind: api.ActPick},
		"a b":             {},
		"a b c prec P":    {},
		"a => _":          {},
		"=> _":            {},
		"a b => $1":       {Kind: api.ActPick},
		"a b => $2":       {Kind: api.ActPick, At: 1},
		"=> N":            {Kind: api.ActNode, Name: "N"},
		"=> \"\"":         {Kind: api.ActText},
		"=> \"$1\"":       {Kind: api.ActText, Name: "$1"},
		"a => \"\\xff\"":  {Kind: api.ActText, Name: "\xff"},
		"a => _a":         {Kind: api.ActNode, Name: "_a"},
		"a => N(_, N, _)": {Kind: api.ActNode, Name: "N", Kids: []api.Act{{}, {Kind: api.ActNode, Name: "N"}, {}}},
	} {
		m := parsed(t, "module M; rule r = "+s+";")
		if len(m.Rules[0].Alts) != 1 || told(m.Rules[0].Alts[0].Act, true) != told(want, true) {
			t.Error(s, m.Rules[0].Alts)
		}
	}
	for _, s := range []string{"=>", "=> ,", "=> N()", "=> N(,)", "=> N(_,)", "=> N(_", "=> N(_ _)", "=> _ _", "=> _(N)", "=> \"a\"(N)", "=> N N", "=> prec", "=> (N)", "=> _ prec P", "prec", "prec P a", "prec P prec P"} {
		if _, f := spec.Parse("module M; rule r = " + s + ";"); f.Why != api.ErrSpec {
			t.Error(s, f)
		}
		likeWords(t, "module M; rule r = "+s+";")
	}
}

// Where an alternative begins, one without a token too.
func TestPlacesOfAlternatives(t *testing.T) {
	s := "module M; rule r =| | prec P|=> _|a\n// x\n|  // y\n;"
	var want []int
	for _, first := range []string{"| | prec", "| prec", "prec", "=> _", "a\n", ";"} {
		at := strings.Index(s, first)
		if first == ";" {
			at = len(s) - 1
		}
		want = append(want, at)
	}
	var got []int
	for _, a := range parsed(t, s).Rules[0].Alts {
		got = append(got, a.At)
	}
	if !slices.Equal(got, want) {
		t.Error(got, want)
	}
}

// The mode of a line is the last one that was told ahead.
func TestModesOfLines(t *testing.T) {
	m := parsed(t, "module M; skip = [a]; mode x; skip = [a]; token A = [a]; use U; mode y; mode z; token A = [a]; mode main; skip = [a]; mode x; skip = [a]; mode w;")
	var got []string
	for _, l := range m.Lex {
		got = append(got, l.Mode)
	}
	if !slices.Equal(got, []string{"main", "x", "x", "z", "main", "x"}) {
		t.Error(got)
	}
}
