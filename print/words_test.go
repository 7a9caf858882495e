package print_test

import (
	"reflect"
	"slices"
	"strconv"
	"strings"
	"testing"
	"text/template"

	"quoin/api"
	"quoin/print"
	"quoin/regex"
	"quoin/spec"
	"quoin/text"
)

// The chapter's words by the letter: its laid-out form as a template, and what may stand in a module as what layer 8 reads there.

// layout is the chapter's section The laid-out form.
const layout = `
{{- define "list"}}{{range $i, $x := .}}{{if $i}}, {{end}}{{$x}}{{end}}{{end}}
{{- define "refs"}}{{range $i, $x := .}}{{if $i}}, {{end}}{{template "ref" $x}}{{end}}{{end}}
{{- define "acts"}}{{range $i, $x := .}}{{if $i}}, {{end}}{{template "act" $x}}{{end}}{{end}}

{{- define "rename"}}{{.Name}}{{if another .}} as {{.As}}{{end}}{{end}}
{{- define "ctor"}}{{.Name}}{{if .Fields}}({{template "list" .Fields}}){{end}}{{end}}
{{- define "ref"}}{{.Name}}{{if .Args}}({{template "refs" .Args}}){{end}}{{end}}
{{- define "act"}}
	{{- if is "pick" .}}${{more .At}}{{end}}
	{{- if is "none" .}}_{{end}}
	{{- if is "text" .}}{{quote .Name}}{{end}}
	{{- if is "node" .}}{{.Name}}{{if .Kids}}({{template "acts" .Kids}}){{end}}{{end}}
{{- end}}
{{- define "alt"}}
	{{- range .Syms}} {{template "ref" .}}{{end}}
	{{- if .Prec}} prec {{.Prec}}{{end}}
	{{- if told .}} => {{template "act" .Act}}{{end}}
{{- end}}

{{- define "spec" -}}
module {{.Name}};
{{if .Uses}}
{{range .Uses -}}
use {{.Module}}{{if .Names}} ({{range $i, $n := .Names}}{{if $i}}, {{end}}{{template "rename" $n}}{{end}}){{end}};
{{end}}{{end}}{{if .Lex}}
{{range $i, $l := .Lex}}{{if turns $ $i -}}
mode {{.Mode}};
{{end}}{{if .Name}}token {{.Name}} = {{else}}skip = {{end}}{{regex .Re}}{{if .Pop}} pop{{end}}{{if .Push}} push {{.Push}}{{end}};
{{end}}{{end}}{{if .Precs}}
{{range .Precs}}{{key .Assoc}}{{range .Names}} {{.}}{{end}};
{{end}}{{end}}{{if .Datas}}
{{range .Datas -}}
type {{.Data.Name}} = {{range $i, $c := .Data.Ctors}}{{if $i}} | {{end}}{{template "ctor" $c}}{{end}};
{{end}}{{end}}{{range .Rules}}
{{if .Open}}open {{end}}{{if .Inline}}inline {{end}}rule {{.Name}}{{if .Params}}({{template "list" .Params}}){{end}}{{if .Type}}: {{.Type}}{{end}}
{{range $i, $a := .Alts}}{{"\t"}}{{if $i}}|{{else}}={{end}}{{template "alt" $a}}
{{end}}{{"\t"}};
{{end}}{{if .Starts}}
start{{range .Starts}} {{.}}{{end}};
{{end}}{{end}}`

// forms are the template's.
var forms = template.Must(template.New("forms").Funcs(template.FuncMap{
	"another": func(n api.Rename) bool { return n.As != n.Name },
	"more":    func(n int) string { return strconv.Itoa(n + 1) },
	"quote":   func(s string) string { q, _ := text.Quote(s); return q },
	"regex":   func(r api.Regex) string { s, _ := regex.Text(r); return s },
	"key":     func(assoc int) string { return []string{"?", "left", "right", "none"}[assoc] },
	"is": func(kind string, a api.Act) bool {
		return a.Kind == map[string]int{"none": api.ActNone, "pick": api.ActPick, "node": api.ActNode, "text": api.ActText}[kind]
	},
	"turns": func(s api.Spec, i int) bool {
		if i == 0 {
			return s.Lex[0].Mode != "main"
		}
		return s.Lex[i].Mode != s.Lex[i-1].Mode
	},
	"told": func(a api.Alt) bool { // by layer 8's words of the action that is meant where none is told
		meant := api.Act{Kind: api.ActNone}
		if len(a.Syms) == 1 {
			meant = api.Act{Kind: api.ActPick, At: 0}
		}
		return told(a.Act, true) != told(meant, true)
	},
}).Parse(layout))

// laid is what a template makes of something.
func laid(name string, x any) string {
	var b strings.Builder
	if e := forms.ExecuteTemplate(&b, name, x); e != nil {
		panic(e)
	}
	return b.String()
}

// wantSpec is what Spec must answer.
func wantSpec(s api.Spec) (string, api.Errno) {
	if !spec.Right(s) {
		return "", api.ErrForm
	}
	form := laid("spec", s)
	if len(form) > 1<<18 {
		return "", api.ErrLong
	}
	return form, api.OK
}

// wantRef is what Ref must answer: a symbol may stand in an alternative, if it is read there.
func wantRef(r api.Ref) (string, api.Errno) {
	form := laid("ref", r)
	m, f := spec.Parse("module M;rule r=" + form + "\n;")
	want := api.Spec{Name: "M", Rules: []api.RuleLine{{Name: "r", Alts: []api.Alt{{Syms: []api.Ref{r}, Act: api.Act{Kind: api.ActPick}}}}}}
	if f != (api.Fault{}) || told(m, false) != told(want, false) {
		return "", api.ErrForm
	}
	return form, api.OK
}

// wantAct is what Act must answer: an action may be one of an alternative, if it is read there.
func wantAct(a api.Act, most int) (string, api.Errno) {
	if most < 0 {
		most = 0
	}
	if most > 32 {
		most = 32
	}
	form := laid("act", a)
	m, f := spec.Parse("module M;rule r=" + strings.Repeat("s ", most) + "=>" + form + "\n;")
	alt := api.Alt{Syms: repeated(most, api.Ref{Name: "s"}), Act: a}
	want := api.Spec{Name: "M", Rules: []api.RuleLine{{Name: "r", Alts: []api.Alt{alt}}}}
	if f != (api.Fault{}) || told(m, false) != told(want, false) {
		return "", api.ErrForm
	}
	return form, api.OK
}

// wantNames is what Names must answer.
func wantNames(s api.Spec) []string {
	var scanner, types, ctors, rules []string
	for _, l := range s.Lex {
		scanner = append(scanner, l.Name)
	}
	scanner = slices.DeleteFunc(scanner, func(name string) bool { return name == "" })
	for _, l := range s.Datas {
		types = append(types, l.Data.Name)
		for _, c := range l.Data.Ctors {
			ctors = append(ctors, c.Name)
		}
	}
	for _, r := range s.Rules {
		rules = append(rules, r.Name)
	}
	var l []string
	all := slices.Concat(scanner, types, ctors, rules)
	for i, name := range all {
		if slices.Index(all, name) == i {
			l = append(l, name)
		}
	}
	return l
}

// told is a value as a text in which all of it stands, with its places or without; lists that are empty are one.
func told(v any, places bool) string {
	var b strings.Builder
	tell(&b, reflect.ValueOf(v), places)
	return b.String()
}

func tell(b *strings.Builder, v reflect.Value, places bool) {
	switch v.Kind() {
	case reflect.Struct:
		b.WriteString(v.Type().Name() + "{")
		for i := range v.NumField() {
			if places || !isPlace(v.Type(), i) {
				b.WriteString(v.Type().Field(i).Name + ":")
				tell(b, v.Field(i), places)
				b.WriteString(" ")
			}
		}
		b.WriteString("}")
	case reflect.Slice:
		b.WriteString("[")
		for i := range v.Len() {
			tell(b, v.Index(i), places)
			b.WriteString(",")
		}
		b.WriteString("]")
	case reflect.String:
		b.WriteString(strconv.Quote(v.String()))
	case reflect.Bool:
		b.WriteString(strconv.FormatBool(v.Bool()))
	default:
		b.WriteString(strconv.FormatInt(v.Int(), 10))
	}
}

// isPlace tells whether a field is a place; an action's At is a symbol's number.
func isPlace(t reflect.Type, field int) bool {
	return t.Field(field).Name == "At" && t != reflect.TypeFor[api.Act]()
}

// likeWords holds all that is told of a tree against the words, and tells whether it has a form.
func likeWords(t testing.TB, s api.Spec) bool {
	t.Helper()
	form, e := print.Spec(s)
	want, wantE := wantSpec(s)
	if form != want || e != wantE {
		t.Fatalf("Spec of %s:\n%s\n%v, want\n%s\n%v", brief(told(s, true)), brief(form), e, brief(want), wantE)
	}
	if names := print.Names(s); !slices.Equal(names, wantNames(s)) {
		t.Fatalf("Names of %s: %q, want %q", brief(told(s, true)), names, wantNames(s))
	}
	return e == api.OK
}

// refLikeWords holds what is told of a symbol against the words, and tells whether it has a text.
func refLikeWords(t testing.TB, r api.Ref) bool {
	t.Helper()
	form, e := print.Ref(r)
	want, wantE := wantRef(r)
	if form != want || e != wantE {
		t.Fatalf("Ref of %s: %s %v, want %s %v", brief(told(r, true)), brief(form), e, brief(want), wantE)
	}
	return e == api.OK
}

// actLikeWords holds what is told of an action against the words, and tells whether it has a text.
func actLikeWords(t testing.TB, a api.Act, most int) bool {
	t.Helper()
	form, e := print.Act(a, most)
	want, wantE := wantAct(a, most)
	if form != want || e != wantE {
		t.Fatalf("Act of %s, %d: %s %v, want %s %v", brief(told(a, true)), most, brief(form), e, brief(want), wantE)
	}
	return e == api.OK
}

// hasForm holds a tree's laid-out form against a text.
func hasForm(t testing.TB, s api.Spec, want string) {
	t.Helper()
	form, e := print.Spec(s)
	if form != want || e != api.OK {
		t.Errorf("%v\n%s\nwant\n%s", e, brief(form), brief(want))
	}
	likeWords(t, s)
}

// isFormat holds a text's laid-out form against a text.
func isFormat(t testing.TB, s, want string) {
	t.Helper()
	form, f := print.Format(s)
	if form != want || f != (api.Fault{}) {
		t.Errorf("%s: %v\n%s\nwant\n%s", brief(s), f, brief(form), brief(want))
	}
}

// faulty holds a text's fault against one that is told.
func faulty(t testing.TB, s string, why api.Errno, at int) {
	t.Helper()
	form, f := print.Format(s)
	if form != "" || f != (api.Fault{Why: why, At: at}) {
		t.Errorf("%s: %s %v, want {%v %d}", brief(s), brief(form), f, why, at)
	}
}

// parsed is the tree of a text that must have one.
func parsed(t testing.TB, s string) api.Spec {
	t.Helper()
	made, f := spec.Parse(s)
	if f != (api.Fault{}) {
		t.Fatalf("%s: %v", brief(s), f)
	}
	return made
}

// brief is a text that a message can bear.
func brief(s string) string {
	if len(s) > 2000 {
		return s[:1000] + " .. " + s[len(s)-500:]
	}
	return s
}
