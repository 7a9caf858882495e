package spec_test

import (
	"strconv"
	"strings"
	"testing"

	"quoin/api"
)

// Q1's limits: as many as may be, and one more; what is told is the first token of what is one too many.

func itoa(n int) string { return strconv.Itoa(n) }

// many is a text that often, with another one between any two.
func many(n int, s, between string) string {
	return strings.TrimSuffix(strings.Repeat(s+between, n), between)
}

func TestLimits(t *testing.T) {
	for _, c := range []struct {
		name, ahead, one, between, behind string
		most                              int
	}{
		{"Uses", "module M;", "use U(a);", "", "", api.MaxSpecs},
		{"Tokens", "module M;", "token T=.;", "", "", api.MaxSpecs},
		{"Skips", "module M;", "skip=.;", "mode x;", "", api.MaxSpecs},
		{"Levels", "module M;", "left a b;", "", "", api.MaxSpecs},
		{"Types", "module M;", "type T=C;", "", "", api.MaxSpecs},
		{"Rules", "module M;", "rule r=;", "", "", api.MaxSpecs},
		{"open Rules", "module M;", "open rule r=;", "", "", api.MaxSpecs},
		{"inline Rules", "module M;", "inline rule r=;", "", "", api.MaxSpecs},
		{"open inline Rules", "module M;", "open inline rule r=;", "", "", api.MaxSpecs},
		{"words of one Start", "module M; start ", "a", " ", ";", api.MaxSpecs},
		{"words of two Starts", "module M; start a; start ", "a", " ", ";", api.MaxSpecs - 1},
		{"words of many Starts", "module M; start ", "a", ";start ", ";", api.MaxSpecs},
		{"Names", "module M; use U (", "a", ",", ");", api.MaxSpecs},
		{"Names with As", "module M; use U (", "a as b", ", ", ");", api.MaxSpecs},
		{"words of a Level", "module M; none ", "a", " ", ";", api.MaxSpecs},
		{"Ctors", "module M; type T = ", "C", "|", ";", api.MaxSpecs},
		{"Ctors with fields", "module M; type T = ", "C(a,b)", "|", ";", api.MaxSpecs},
		{"Alts", "module M; rule r = ", "a", "|", ";", api.MaxSpecs},
		{"Alts with prec", "module M; rule r = ", "prec P", "|", ";", api.MaxSpecs},
		{"Alts of an action", "module M; rule r = ", "=> N", "|", ";", api.MaxSpecs},
		{"Syms", "module M; rule r = ", "a", " ", ";", api.MaxSyms},
		{"Syms with args", "module M; rule r = | ", "a(b, c)", " ", "| b;", api.MaxSyms},
		{"Params", "module M; rule r(", "p", ",", ") = ;", api.MaxParams},
		{"Args", "module M; rule r = a(", "b", ",", ");", api.MaxParams},
		{"inner Args", "module M; rule r = a(x, b(", "b(c)", ",", "));", api.MaxParams},
		{"Fields", "module M; type T = C(", "f", ",", ");", api.MaxFields},
		{"Fields of the second", "module M; type T = C(a, b) | C(", "f", ",", ");", api.MaxFields},
		{"nodes", "module M; rule r = => N(", "M(_)", ",", ");", api.MaxFields},
		{"picks", "module M; rule r = a => N(", "$1", ",", ");", api.MaxFields},
		{"nones", "module M; rule r = => N(N(", "_", ",", "));", api.MaxFields},
		{"texts", "module M; rule r = => N(", "\"q\"", ",", ");", api.MaxFields},
	} {
		full := c.ahead + many(c.most, c.one, c.between)
		parsed(t, full+c.behind)
		if !likeWords(t, full+c.behind) {
			t.Error(c.name)
		}
		at := len(full + c.between)
		refused(t, full+c.between+c.one+c.behind, api.ErrItems, at)
		refused(t, full+c.between+c.one, api.ErrItems, at)
		refused(t, full+c.between+" // \n"+c.one+"%", api.ErrItems, at+5)
		likeWords(t, full+c.between+c.one+c.behind)
		// What is wrong in another way, or lies ahead, comes first.
		refused(t, full+c.between+"%", api.ErrForm, at)
		refused(t, full+c.between+"\"", api.ErrQuote, at)
		refused(t, full+c.between+"\n"+strings.Repeat("x", 33), api.ErrWord, at+1)
		refused(t, full+c.between+" :", api.ErrSpec, at+1)
		refused(t, full+c.between+" as", api.ErrSpec, at+1)
		if c.behind != "" {
			refused(t, full+c.between, api.ErrSpec, at)
		}
	}
}

// The one alternative too many, if it has no token: the one behind it is told.
func TestEmptyAlternativesLimit(t *testing.T) {
	bars := strings.Repeat("|", api.MaxSpecs-1)
	s := "module M; rule r = " + bars
	if l := parsed(t, s+";").Rules[0].Alts; len(l) != api.MaxSpecs {
		t.Error(len(l))
	}
	refused(t, s+"|;", api.ErrItems, len(s)+1)
	refused(t, s+"|  |;", api.ErrItems, len(s)+3)
	refused(t, s+"|| % \"", api.ErrItems, len(s)+1)
	refused(t, s+"| => _", api.ErrItems, len(s)+2)
	refused(t, s+"| prec", api.ErrItems, len(s)+2)
	refused(t, s+"|", api.ErrSpec, len(s)+1)
	refused(t, s+"| ,", api.ErrSpec, len(s)+2)
	refused(t, s+"| \"q\"", api.ErrSpec, len(s)+2)
	refused(t, s+"| $1", api.ErrSpec, len(s)+2)
}

// Each kind has its own list, and each list its own limit.
func TestListsOfTheirOwn(t *testing.T) {
	s := "module M;" + strings.Repeat("use U;token T=.;left a;type T=C;rule r=;start s;", api.MaxSpecs)
	m := parsed(t, s)
	for _, n := range []int{len(m.Uses), len(m.Lex), len(m.Precs), len(m.Datas), len(m.Rules), len(m.Starts)} {
		if n != api.MaxSpecs {
			t.Error(n)
		}
	}
	for x, at := range map[string]int{"use U;": 0, "token T=.;": 0, "skip=.;": 0, "left a;": 0, "right a;": 0, "none a;": 0, "type T=C;": 0, "rule r=;": 0, "open rule r=;": 0, "start s;": 6} {
		refused(t, s+x, api.ErrItems, len(s)+at)
		key, rest, _ := strings.Cut(x, " ")
		refused(t, s+"\""+key+"\" "+rest, api.ErrSpec, len(s)) // a quoted text is no key
	}
	parsed(t, s+strings.Repeat("mode x;", api.MaxSpecs+1))
	refused(t, "module M; start "+many(api.MaxSpecs, "a", " ")+"; start;", api.ErrSpec, 16+2*api.MaxSpecs-1+7)
	half := "module M;" + strings.Repeat("token T=.;skip=.;", api.MaxSpecs/2)
	parsed(t, half)
	refused(t, half+"skip=.;", api.ErrItems, len(half))
	refused(t, half+"token T=.;", api.ErrItems, len(half))
	levels := "module M;" + strings.Repeat("left a;", 86) + strings.Repeat("right a;", 85) + strings.Repeat("none a;", 85)
	parsed(t, levels)
	refused(t, levels+"none a;", api.ErrItems, len(levels))
	twice := "module M; rule r = " + many(api.MaxSyms, "a", " ") + "|" + many(api.MaxSyms, "a(b,c,d,e)", " ") + ";" + "rule s(a,b,c,d)=;rule s(a,b,c,d)=;"
	parsed(t, twice)
	parsed(t, "module M;"+many(2, "use U("+many(api.MaxSpecs, "a", ",")+");"+"left"+strings.Repeat(" a", api.MaxSpecs)+";", " "))
}

// nested is a text within itself that often.
func nested(levels int, open, in, shut string) string {
	return strings.Repeat(open, levels) + in + strings.Repeat(shut, levels)
}

func TestNesting(t *testing.T) {
	for _, c := range []struct{ ahead, open, in, shut string }{
		{"module M; rule r = ", "a(", "a", ")"},
		{"module M; rule r = x(y) ", "a(b, ", "a", ", c)"},
		{"module M; rule r = => ", "N(", "N", ")"},
		{"module M; rule r = => ", "N(_, ", "\"q\"", ", M)"},
		{"module M; rule r = a(b(c)) => ", "N( ", "$1", ")"},
	} {
		full := c.ahead + nested(api.MaxNest, c.open, c.in, c.shut)
		if !likeWords(t, full+";") {
			t.Error(c)
		}
		s := c.ahead + nested(api.MaxNest+1, c.open, c.in, c.shut) + ";"
		at := len(c.ahead) + api.MaxNest*len(c.open) + strings.Index(c.open, "(")
		refused(t, s, api.ErrNest, at)
		refused(t, s[:at+1], api.ErrNest, at)
		refused(t, s[:at+1]+"%", api.ErrNest, at)
		refused(t, s[:at]+"%", api.ErrForm, at)
		likeWords(t, s)
		parsed(t, full+"|"+strings.TrimPrefix(full, "module M; rule r = ")+"; rule s = a(b);") // the ones behind begin anew
	}
	syms := nested(api.MaxNest, "a(", "a", ")")
	acts := nested(api.MaxNest, "N(", "N", ")")
	parsed(t, "module M; rule r = "+syms+" "+syms+" => "+acts+" | "+syms+";")
	deep := "module M; rule r = x " + nested(api.MaxNest, "a(", "a", ")")
	refused(t, deep[:len(deep)-api.MaxNest]+"(", api.ErrNest, len(deep)-api.MaxNest)
	refused(t, deep[:len(deep)-api.MaxNest]+"|", api.ErrSpec, len(deep)-api.MaxNest)
	refused(t, deep[:len(deep)-api.MaxNest], api.ErrSpec, len(deep)-api.MaxNest)
	// The ( of other declarations open no level.
	parsed(t, "module M; use U (a); type T = C(a); rule r(p) = "+syms+";")
}
