package print_test

import (
	"math/rand"
	"strings"
	"testing"

	"quoin/api"
	"quoin/print"
	"quoin/regex"
	"quoin/spec"
)

// P9.2: Format. P9.3: there and back. P9.4: one form. P9.5: places have no part.

// thereAndBack holds a tree that has a form against what is read of it, and the form against its own.
func thereAndBack(t testing.TB, s api.Spec) string {
	t.Helper()
	form, e := print.Spec(s)
	if e != api.OK {
		t.Fatalf("%v: %s", e, brief(told(s, true)))
	}
	made, f := spec.Parse(form)
	if f != (api.Fault{}) || !spec.Same(made, s) || told(made, false) != told(s, false) {
		t.Fatalf("%v: %s", f, brief(form))
	}
	isFormat(t, form, form)
	if again, e := print.Spec(made); again != form || e != api.OK {
		t.Fatalf("%v: another form of\n%s\n%s", e, brief(form), brief(again))
	}
	return form
}

func TestThereAndBack(t *testing.T) {
	m := newMaker(95)
	thereAndBack(t, plainTree())
	for range 2000 {
		thereAndBack(t, m.tree())
	}
	for _, fill := range fillers() {
		thereAndBack(t, filled(t, fill, api.MaxSource))
	}
}

// Expressions of all kinds within each other, and symbols and actions as deep as may be.
func TestThereAndBackOfDeepTrees(t *testing.T) {
	s := plainTree()
	s.Rules[0].Alts[0] = api.Alt{Syms: []api.Ref{deepRef(64), bush(3)}, Act: deepAct(64, quoted("\x00"))}
	thereAndBack(t, s)
	for _, src := range []string{`!("a" "b" | "c")* & ("d" | "e" "f") ("g" & .*)`, `!(!"ab" "c")`, `(!"a")*`, `(("a"* "b")* "c")*`, `"\x00" [\u{0}-\u{1f} \u{20} \u{d800}-\u{dfff} \u{10ffff} \- \] \[ \^ \\ \" ; /] "\"\\" "]" "[" "-" "^"`, strings.Repeat("(", 63) + `"a"` + strings.Repeat(`* "b" | "c")`, 20) + strings.Repeat(")", 43)} {
		for _, behind := range []string{";", " pop;", " push in;", " pop push in;"} {
			thereAndBack(t, parsed(t, "module M; token T = "+src+behind+"skip="+src+behind))
		}
	}
}

// deepRegex is a right expression with so many within one another, of a row of kinds that comes again and again.
func deepRegex(t testing.TB, levels int, kinds ...int) api.Regex {
	t.Helper()
	r := set('a')
	for i := 1; i < levels; i++ {
		kind := kinds[i%len(kinds)]
		kids := []api.Regex{r}
		if kind == api.ReCat || kind == api.ReAlt || kind == api.ReAnd {
			kids = []api.Regex{set('b'), r}
		}
		r = api.Regex{Kind: kind, Kids: kids}
	}
	if regex.Right(r) != (levels <= api.MaxNest) {
		t.Fatal("the test is wrong", kinds)
	}
	return r
}

func TestThereAndBackOfDeepExpressions(t *testing.T) {
	for _, kinds := range [][]int{
		{api.ReNot, api.ReStar}, {api.ReStar, api.ReNot}, {api.ReStar, api.ReCat}, {api.ReCat, api.ReStar}, {api.ReNot, api.ReCat}, {api.ReCat, api.ReNot},
		{api.ReStar, api.ReCat, api.ReNot}, {api.ReAlt, api.ReStar, api.ReCat}, {api.ReAlt, api.ReCat, api.ReNot}, {api.ReAnd, api.ReNot, api.ReAlt, api.ReStar},
		{api.ReAnd, api.ReCat, api.ReAlt, api.ReCat},
	} {
		for _, levels := range []int{2, 3, 4, 5, 40, 63, 64} {
			re := deepRegex(t, levels, kinds...)
			thereAndBack(t, api.Spec{Name: "M", Lex: []api.LexLine{{Mode: "main", Name: "T", Re: re, Pop: true, Push: "in"}, {Mode: "in", Re: re}}})
		}
		refusedTree(t, api.Spec{Name: "M", Lex: []api.LexLine{{Mode: "main", Re: deepRegex(t, 65, kinds...)}}})
	}
}

// Texts that are read as the same module have one Format.
func TestOneForm(t *testing.T) {
	m := newMaker(96)
	for range 1000 {
		s := m.tree()
		form := thereAndBack(t, s)
		for range 3 {
			other := m.otherText(s)
			if !spec.Same(parsed(t, other), s) {
				t.Fatalf("the test is wrong: %s\n%s", form, other)
			}
			isFormat(t, other, form)
		}
	}
}

func TestFormat(t *testing.T) {
	const form = "module M;\n\nuse U (a);\n\nskip = [x];\n\nnone a;\n\ntype T = C;\n\nrule r\n\t=\n\t;\n\nrule s\n\t= r\n\t;\n\nstart r s;\n"
	for _, s := range []string{
		form,
		"module M;use U(a);skip=[x];none a;type T=C;rule r=;rule s=r;start r s;",
		"module M;start r;rule r=;type T=C;start s;none a;rule s=r;skip=[x];use U(a);",
		"// remark\nmodule M; use U (a as a); mode main; skip = \"x\"; none a; type T = C; rule r = => _; rule s = r => $1; start r s; mode in; // remark",
		strings.ReplaceAll(form, "\n", "\r\n\t"),
		strings.ReplaceAll(form, "\n", " // ;\n"),
	} {
		isFormat(t, s, form)
	}
}

// Of a text that is none Parse's fault is told.
func TestFormatOfWrongTexts(t *testing.T) {
	faulty(t, "", api.ErrSpec, 0)
	faulty(t, "rule", api.ErrSpec, 0)
	faulty(t, "module M; rule = a;", api.ErrSpec, 15)
	faulty(t, "module M; rule r = a => $2;", api.ErrArg, 25)
	faulty(t, "module M; token A = ;", api.ErrForm, 20)
	faulty(t, "module M; token A =", api.ErrForm, 19)
	faulty(t, "module M; %", api.ErrForm, 10)
	faulty(t, "module M; \"", api.ErrQuote, 10)
	faulty(t, "module M; start "+strings.Repeat("w", 33), api.ErrWord, 16)
	faulty(t, "module M; rule r = "+strings.Repeat("a(", 65), api.ErrNest, 19+129)
	faulty(t, "module M; rule r = "+strings.Repeat("a ", 33), api.ErrItems, 19+64)
	faulty(t, "module M; skip = \"a\"{256};", api.ErrRepeat, 20)
	faulty(t, "module M; skip = [b-a];", parseWhy("module M; skip = [b-a];"), 18)
	r := rand.New(rand.NewSource(97))
	m := newMaker(98)
	wrongs := 0
	for range 60 {
		s := m.otherText(m.tree())
		for range 60 {
			b := []byte(s)
			switch at := r.Intn(len(b)); r.Intn(3) {
			case 0:
				b = b[:at]
			case 1:
				b[at] = " ;=|()_$\"a/1\n%"[r.Intn(14)]
			case 2:
				b = append(b[:at:at], b[at+1:]...)
			}
			made, f := spec.Parse(string(b))
			form, fault := print.Format(string(b))
			if fault != f {
				t.Fatalf("%q: %v, want %v", b, fault, f)
			}
			want := ""
			if f == (api.Fault{}) {
				want = laid("spec", made)
			} else {
				wrongs++
			}
			if form != want {
				t.Fatalf("%q: %s", b, form)
			}
		}
	}
	if wrongs < 500 {
		t.Error("too few:", wrongs)
	}
}

// parseWhy is layer 8's error of a text.
func parseWhy(s string) api.Errno {
	_, f := spec.Parse(s)
	return f.Why
}

// compact is a text of few gaps that has a tree of rules with texts alone.
func compact(s api.Spec) string {
	var b strings.Builder
	b.WriteString("module " + s.Name + ";")
	for _, r := range s.Rules {
		b.WriteString("rule " + r.Name)
		for i, a := range r.Alts {
			b.WriteString([]string{"= =>", "|=>"}[min(i, 1)] + laid("act", a.Act))
		}
		b.WriteString(";")
	}
	return b.String()
}

// P9.2: a laid-out form of just MaxSource bytes, and one more; and texts that are themselves as long.
func TestFormatOfLongTexts(t *testing.T) {
	fill := func(*api.Spec) {}
	for _, bytes := range []int{api.MaxSource - 1, api.MaxSource, api.MaxSource + 1, api.MaxSource + 100} {
		s := filled(t, fill, bytes)
		src := compact(s)
		if len(src) > api.MaxSource-100 || !spec.Same(parsed(t, src), s) {
			t.Fatal("the test is wrong", len(src))
		}
		if bytes <= api.MaxSource {
			isFormat(t, src, laid("spec", s))
			isFormat(t, laid("spec", s), laid("spec", s))
		} else {
			faulty(t, src, api.ErrLong, 0)
			faulty(t, src+" //", api.ErrLong, 0)
			faulty(t, laid("spec", s), api.ErrLong, 0)
			faulty(t, src+"%", api.ErrForm, len(src)) // what is wrong with the text comes first
		}
	}
	short := "module M;"
	isFormat(t, short+strings.Repeat(" ", api.MaxSource-len(short)), "module M;\n")
	faulty(t, short+strings.Repeat(" ", api.MaxSource-len(short)+1), api.ErrLong, 0)
	faulty(t, strings.Repeat("%", api.MaxSource+1), api.ErrLong, 0)
	faulty(t, strings.Repeat("%", api.MaxSource), api.ErrForm, 0)
	// As many alternatives as may be: without symbols they have room, with symbols they have not.
	bars := "module M;" + strings.Repeat("rule r="+strings.Repeat("|", 255)+";", 256)
	isFormat(t, bars, "module M;\n"+strings.Repeat("\nrule r\n\t="+strings.Repeat("\n\t|", 255)+"\n\t;\n", 256))
	rules := "module M;" + strings.Repeat("rule r="+strings.Repeat("a|", 255)+"a;", 256)
	faulty(t, rules, api.ErrLong, 0)
}

// Modules that differ in places alone have one form; so have symbols.
func TestPlaces(t *testing.T) {
	m := newMaker(99)
	for range 500 {
		s := m.tree()
		form := thereAndBack(t, s)
		if again, e := print.Spec(moved(m, s)); again != form || e != api.OK {
			t.Fatalf("%v\n%s\n%s", e, form, again)
		}
		if told(print.Names(s), true) != told(print.Names(moved(m, s)), true) {
			t.Fatal("names hang on places")
		}
		r := m.ref(3)
		one, e := print.Ref(r)
		if other, e2 := print.Ref(moved(m, r)); other != one || e != e2 {
			t.Fatal(one, other, e, e2)
		}
	}
	wrong := plainTree()
	wrong.Starts[0] = "rule"
	refusedTree(t, moved(m, wrong))
}
