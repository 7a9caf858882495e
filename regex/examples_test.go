package regex_test

import (
	"testing"

	"quoin/api"
	"quoin/regex"
)

// The chapter's Examples

func TestExamples(t *testing.T) {
	a, b := one('a'), one('b')
	if s, e := regex.Text(parsed(t, `"if" | [a-z]+`)); s != `[a-z] [a-z]* | [i] [f]` || e != api.OK {
		t.Error(s, e)
	}
	checkFaults(t, map[string]api.Fault{`a`: {Why: api.ErrForm}, `("a"`: {Why: api.ErrForm, At: 4}})
	r, e := regex.Alt(a, b, a)
	want(t, "Alt", r, e, set(span('a', 'b')))
	for _, x := range rightTrees(50) {
		r, e = regex.Not(x)
		back, f := regex.Not(r)
		if e != api.OK || f != api.OK {
			t.Error(e, f)
		}
		want(t, "Not of Not", back, f, x)
		r, e = regex.Cat(reNone, x)
		want(t, "Cat", r, e, reNone)
		r, e = regex.Repeat(x, 2, 1)
		refused(t, "Repeat", r, e, api.ErrArg)
		r, e = regex.Repeat(x, 0, 256)
		refused(t, "Repeat", r, e, api.ErrRepeat)
	}
	r, e = regex.And(a, b)
	want(t, "And", r, e, reNone)
	d, e := regex.Derive(star(cat(a, b)), 'a')
	if s, _ := regex.Text(d); s != `[b] ([a] [b])*` || e != api.OK {
		t.Error(s, e)
	}
	r = parsed(t, `!(.* "aa" .*) & .+`)
	if !regex.Match(r, 'a', 'b', 'a') || regex.Match(r, 'a', 'a') {
		t.Error("a match")
	}
}
