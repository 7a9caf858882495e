package spec_test

import (
	"math/rand"
	"strings"
	"testing"

	"quoin/api"
	"quoin/spec"
)

// Q5: gaps count for nothing. Q6: the first wrong token.

var gaps = []string{"", " ", "\t", "\r\n", "\n\n ", "// a remark\n", "//\n", " // \" [ ;\n//// \n\t", "//\xff\x00\n"}

// Each two tokens of a text have other gaps between them; outside of expressions.
func TestGaps(t *testing.T) {
	r := rand.New(rand.NewSource(85))
	for _, s := range samples {
		p, _ := whole(s)
		want := parsed(t, s)
		for n := range 60 {
			var b strings.Builder
			behindWord := false
			for _, k := range p.tokens() {
				gap := gaps[r.Intn(len(gaps))]
				if n < len(gaps) {
					gap = gaps[n]
				}
				word := wordForm.MatchString(s[k.at:k.end])
				if gap == "" && behindWord && word {
					gap = " " // two words would be one
				}
				b.WriteString(gap + s[k.at:k.end])
				behindWord = word
			}
			b.WriteString([]string{"", "\n", " // the end", "//"}[r.Intn(4)])
			got := parsed(t, b.String())
			if is, sure := isSame(got, want); !is || !sure {
				t.Fatalf("%q", b.String())
			}
			likeWords(t, b.String())
		}
	}
}

// No gap is needed where two tokens can't be one.
func TestNoGaps(t *testing.T) {
	a := parsed(t, `module M;rule r(p):T=p(q)prec _x=>N($1,_,"t","u")|=>_|a;token A="a"pop push b;start r;left A _b;`)
	b := parsed(t, `module M ; rule r ( p ) : T = p ( q ) prec _x => N ( $ 1 , _ , "t" , "u" ) | => _ | a ; token A = "a" pop push b ; start r ; left A _b ;`)
	if !spec.Same(a, b) {
		t.Error(told(a, false), told(b, false))
	}
	if is := spec.Same(parsed(t, "module M; left a b;"), parsed(t, "module M; left ab;")); is {
		t.Error("two words are one")
	}
	refused(t, "moduleM;", api.ErrSpec, 0)
	refused(t, "module/M;", api.ErrForm, 6)
	refused(t, "module /* */ M;", api.ErrForm, 7)
	refused(t, "module # \nM;", api.ErrForm, 7)
	refused(t, "module\vM;", api.ErrForm, 6)
	refused(t, "module\u00a0M;", api.ErrForm, 6)
	refused(t, "\ufeffmodule M;", api.ErrForm, 0)
	refused(t, "module M; // a\n%", api.ErrForm, 15)
	parsed(t, "module M; // a\r%") // a byte 10 alone ends a remark
}

// What stands behind the token at which ErrSpec is told turns nothing.
func TestBehindTheWrongToken(t *testing.T) {
	r := rand.New(rand.NewSource(86))
	tails := append([]string{"%", "\"", "// ;", strings.Repeat("x", 99), "\xff", "; rule", ")))", "=> $9;", strings.Repeat("(", 99), "module M;"}, samples...)
	wrong := 0
	for range 6000 {
		s := samples[r.Intn(len(samples))]
		at := r.Intn(len(s))
		s = s[:at] + " " + pool[r.Intn(len(pool))] + " " + s[min(len(s), at+r.Intn(3)):]
		_, f := spec.Parse(s)
		if f.Why != api.ErrSpec || f.At == len(s) {
			continue
		}
		wrong++
		k, _ := tokenAt(s, f.At)
		for _, tail := range tails {
			refused(t, s[:k.end]+" "+tail, f.Why, f.At)
		}
		refused(t, s[:k.end], f.Why, f.At)
		refused(t, s[:k.end]+" ", f.Why, f.At)
	}
	if wrong < 1500 {
		t.Error("too few:", wrong)
	}
}

// Where each of a module's declarations goes wrong, what lies behind it does not count.
func TestFirstOfTwo(t *testing.T) {
	refused(t, "module M; rule r = a => $2; token A = ;", api.ErrArg, 25)
	refused(t, "module M; token A = ; rule r = a => $2;", api.ErrForm, 20)
	refused(t, "module M; rule ; %", api.ErrSpec, 15)
	refused(t, "module M; % rule ;", api.ErrForm, 10)
	refused(t, "module M; rule r = "+strings.Repeat("x", 33)+" => $9;", api.ErrWord, 19)
	refused(t, "module M; rule r = => $9 \"", api.ErrArg, 23)
	refused(t, "module M module M;", api.ErrSpec, 9)
	refused(t, "module M; module N;", api.ErrSpec, 10)
	refused(t, "module M; ;", api.ErrSpec, 10)
	refused(t, "module M", api.ErrSpec, 8)
	refused(t, "module M  // ", api.ErrSpec, 13)
}
