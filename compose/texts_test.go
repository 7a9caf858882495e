package compose_test

import (
	"slices"
	"strings"
	"testing"

	"quoin/api"
	"quoin/compose"
	"quoin/print"
	"quoin/spec"
)

// Modules as texts, in which marks tell the places of what is wrong: @ and a letter, which are no part of the text.

// unmarked is a text without its marks, and their places by letter.
func unmarked(s string) (string, map[string]int) {
	places := map[string]int{}
	for {
		at := strings.IndexByte(s, '@')
		if at < 0 {
			return s, places
		}
		places[s[at+1:at+2]] = at
		s = s[:at] + s[at+2:]
	}
}

// parsed are the modules of texts, and the places of all marks.
func parsed(t testing.TB, l ...string) ([]api.Spec, map[string]int) {
	t.Helper()
	var made []api.Spec
	all := map[string]int{"0": 0}
	for _, x := range l {
		s, places := unmarked(x)
		m, f := spec.Parse(s)
		if f != (api.Fault{}) {
			t.Fatalf("%s: %v", s, f)
		}
		made = append(made, m)
		for mark, at := range places {
			if _, is := all[mark]; is {
				t.Fatal("the test is wrong: twice", mark)
			}
			all[mark] = at
		}
	}
	return made, all
}

// errnos are the errors of the chapter.
var errnos = map[string]api.Errno{
	"ErrArg": api.ErrArg, "ErrNone": api.ErrNone, "ErrThere": api.ErrThere, "ErrItems": api.ErrItems, "ErrModule": api.ErrModule,
	"ErrRing": api.ErrRing, "ErrClash": api.ErrClash, "ErrClosed": api.ErrClosed, "ErrUnknown": api.ErrUnknown,
}

// isWrong holds all that is wrong with texts, whose main module is M, against lines of a module, an error and a mark.
func isWrong(t testing.TB, l []string, want ...string) {
	t.Helper()
	modules, places := parsed(t, l...)
	var diags []api.Diag
	for _, x := range want {
		f := strings.Fields(x)
		at, is := places[f[2]]
		if !is || errnos[f[1]] == 0 {
			t.Fatal("the test is wrong:", x)
		}
		diags = append(diags, api.Diag{Module: f[0], Why: errnos[f[1]], At: at})
	}
	if got := compose.Check("M", modules...); !slices.Equal(got, diags) {
		t.Errorf("%q: %v, want %v", l, got, diags)
	}
	made, got := compose.Compose("M", modules...)
	if !slices.Equal(got, diags) || len(diags) > 0 && told(made) != told(api.Spec{}) {
		t.Errorf("%q: %v, want %v", l, got, diags)
	}
	likeWords(t, "M", modules...)
}

// isComposed holds what comes of texts, whose main module is M, against a text, in which Open need not be told.
func isComposed(t testing.TB, l []string, want string) {
	t.Helper()
	modules, _ := parsed(t, l...)
	wants, _ := parsed(t, want)
	for i := range wants[0].Rules {
		wants[0].Rules[i].Open = true
	}
	got, diags := compose.Compose("M", modules...)
	if len(diags) > 0 || !spec.Same(got, wants[0]) {
		t.Errorf("%q: %v\n%swant\n%s", l, diags, texts([]api.Spec{got}), texts(wants))
	}
	likeWords(t, "M", modules...)
}

// isOrder holds the order of texts' modules against names.
func isOrder(t testing.TB, l []string, want ...string) {
	t.Helper()
	modules, _ := parsed(t, l...)
	if got, diags := compose.Order("M", modules...); !slices.Equal(got, want) || len(diags) > 0 {
		t.Errorf("%q: %q %v, want %q", l, got, diags, want)
	}
	likeWords(t, "M", modules...)
}

// isName holds a rule's name in what comes of texts against one, or an error's name.
func isName(t testing.TB, l []string, module, rule, want string) {
	t.Helper()
	modules, _ := parsed(t, l...)
	e := errnos[want]
	if e != api.OK {
		want = ""
	}
	if got, gotE := compose.Name("M", module, rule, modules...); got != want || gotE != e {
		t.Errorf("%q: %s of %s: %q %v, want %q %v", l, rule, module, got, gotE, want, e)
	}
	likeWords(t, "M", modules...)
}

// texts are modules as texts that a message can bear.
func texts(l []api.Spec) string {
	var b strings.Builder
	for _, s := range l {
		form, e := print.Spec(s)
		if e != api.OK {
			form = told(s) + "\n"
		}
		b.WriteString(form)
	}
	s := b.String()
	if len(s) > 8000 {
		return s[:4000] + " .. " + s[len(s)-2000:]
	}
	return s
}
