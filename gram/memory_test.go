package gram_test

import (
	"reflect"
	"slices"
	"testing"

	"quoin/api"
	"quoin/gram"
)

// DOC.md's R4: what is handed in is not changed and not kept, what is answered is new memory. R5: same arguments, same answers. (R1 and R3, of grammars that may not be, stand with Check.)

// roomy is a value in memory of its own, with room behind each list in which marks stand.
func roomy[T any](x T) T { return copied(reflect.ValueOf(x), true).Interface().(T) }

// clone is a value in memory of its own.
func clone[T any](x T) T { return copied(reflect.ValueOf(x), false).Interface().(T) }

func copied(v reflect.Value, isRoomy bool) reflect.Value {
	made := reflect.New(v.Type()).Elem()
	switch v.Kind() {
	case reflect.Struct:
		for i := range v.NumField() {
			made.Field(i).Set(copied(v.Field(i), isRoomy))
		}
	case reflect.Slice:
		for i := range v.Len() {
			made = reflect.Append(made, copied(v.Index(i), isRoomy))
		}
		if isRoomy {
			mark := reflect.New(v.Type().Elem()).Elem()
			spoil(mark)
			made = reflect.Append(made, mark, mark).Slice(0, v.Len())
		}
	default:
		made.Set(v)
	}
	return made
}

// spoil overwrites a value, its lists, and the room behind them.
func spoil(v reflect.Value) {
	switch v.Kind() {
	case reflect.Struct:
		for i := range v.NumField() {
			spoil(v.Field(i))
		}
	case reflect.Slice:
		l := v.Slice(0, v.Cap())
		for i := range l.Len() {
			spoil(l.Index(i))
		}
	case reflect.String:
		v.SetString("spoilt")
	case reflect.Bool:
		v.SetBool(!v.Bool())
	default:
		v.SetInt(-77)
	}
}

// all is all that stands in a value, in the room behind its lists, too.
func all(x any) string { return told(room(reflect.ValueOf(x)).Interface()) }

// room is a value with the room behind its lists as parts of them.
func room(v reflect.Value) reflect.Value {
	made := reflect.New(v.Type()).Elem()
	switch v.Kind() {
	case reflect.Struct:
		for i := range v.NumField() {
			made.Field(i).Set(room(v.Field(i)))
		}
	case reflect.Slice:
		l := v.Slice(0, v.Cap())
		for i := range l.Len() {
			made = reflect.Append(made, room(l.Index(i)))
		}
	default:
		made.Set(v)
	}
	return made
}

// span is the memory of a list, with the room behind it.
type span struct{ from, to uintptr }

// spans are those of all lists of a value.
func spans(v reflect.Value) []span {
	var l []span
	switch v.Kind() {
	case reflect.Struct:
		for i := range v.NumField() {
			l = append(l, spans(v.Field(i))...)
		}
	case reflect.Slice:
		if v.Cap() > 0 {
			l = append(l, span{v.Pointer(), v.Pointer() + uintptr(v.Cap())*v.Type().Elem().Size()})
		}
		for i := range v.Cap() {
			l = append(l, spans(v.Slice(0, v.Cap()).Index(i))...)
		}
	}
	return l
}

// apart tells whether no two lists of values share memory.
func apart(l ...any) bool {
	var s []span
	for _, x := range l {
		s = append(s, spans(reflect.ValueOf(x))...)
	}
	slices.SortFunc(s, func(a, b span) int { return int(a.from) - int(b.from) })
	for i := 1; i < len(s); i++ {
		if s[i].from < s[i-1].to {
			return false
		}
	}
	return true
}

// shares tells whether some list of a value has memory in common with one of another value.
func shares(a, b any) bool {
	for _, x := range spans(reflect.ValueOf(a)) {
		for _, y := range spans(reflect.ValueOf(b)) {
			if x.from < y.to && y.from < x.to {
				return true
			}
		}
	}
	return false
}

func TestApart(t *testing.T) {
	l := []int{1, 2}
	a, b := api.Prod{Right: l}, api.Prod{Right: l[1:]}
	if apart(a, b) || apart(api.Prod{Right: l[:1]}, l[1:]) || !apart(l, []int{1}) || !shares(l, b) || shares(l, []int{1}) {
		t.Fatal("the test is wrong")
	}
}

// answers are what all calls tell of a grammar and a row.
type answers struct {
	Report      api.Report
	Kinds       []int
	IsEmpty     bool
	Trimmed     api.Plain
	Leasts      []int
	Rows        [][]int
	Lines       []string
	Errors      []int
	FirstErrors []int
}

func ask(g api.Plain, row []int) answers {
	var a answers
	var e [6]api.Errno
	e[0] = gram.Check(g)
	a.Report, e[1] = gram.Look(g)
	a.Kinds, a.IsEmpty, e[2] = gram.First(g, row...)
	a.Trimmed, e[3] = gram.Trim(g)
	for rule := range g.Rules {
		n, _, _ := gram.Least(g, rule)
		l, why := gram.Row(g, rule)
		a.Leasts, a.Rows, a.Errors = append(a.Leasts, n), append(a.Rows, l), append(a.Errors, int(why))
	}
	a.Lines, e[5] = gram.Lines(g)
	for _, why := range e {
		a.FirstErrors = append(a.FirstErrors, int(why))
	}
	return a
}

func TestArguments(t *testing.T) {
	m := newMaker(510)
	for n := range 3000 {
		g := roomy(m.plain(6, 2, 4))
		row := []int{}
		for range m.Intn(4) {
			row = append(row, m.symbol(g, 2))
		}
		if n%10 == 0 {
			g.Prods = append(g.Prods, api.Prod{Left: -1})
		}
		row = roomy(row)
		kept := all(g) + all(row)
		a, again := ask(g, row), ask(g, row)
		if all(g)+all(row) != kept {
			t.Fatal("an argument is changed")
		}
		if !apart(g, row, a, again) {
			t.Fatal("an answer shares memory")
		}
		want := told(a)
		spoil(reflect.ValueOf(&again).Elem())
		if told(ask(clone(g), clone(row))) != want || told(ask(g, row)) != want {
			t.Fatal("other answers of the same")
		}
		spoil(reflect.ValueOf(&g).Elem())
		spoil(reflect.ValueOf(&row).Elem())
		if told(a) != want {
			t.Fatal("what is told hangs on what was handed in")
		}
	}
}

// Lists that are handed in may share memory with each other: those that come do not.
func TestSharedLists(t *testing.T) {
	g := read("S = A A; A = a A; A =; B = b")
	right := []int{5, 5, 2, 5}
	kids := []api.Act{{Kind: api.ActNode, Name: "N"}, {Kind: api.ActText, Name: "t"}}
	kids[0].Kids = []api.Act{{}, {}}
	node := api.Act{Kind: api.ActNode, Name: "N", Kids: append(kids, kids[0])}
	for i := range g.Prods {
		g.Prods[i] = api.Prod{Left: g.Prods[i].Left, Right: right[i:], Act: node}
	}
	g.Prods = append(g.Prods, api.Prod{Left: 1})
	kept := told(g)
	a := ask(g, right)
	if a.FirstErrors[3] != int(api.OK) || len(a.Trimmed.Prods) != 4 || !apart(a) || shares(g, a) || shares(right, a) || told(g) != kept {
		t.Error(told(a))
	}
}

// The rules of one ring have the same kinds, but no list in common.
func TestListsOfRings(t *testing.T) {
	g := read("S = A; A = B; B = S; B = b; B = a B c")
	r, e := gram.Look(g)
	if e != api.OK || !slices.Equal(r.First[0], r.First[1]) || !apart(r) {
		t.Error(r, e)
	}
	r.First[0][0], r.Follow[0][0] = -1, -1
	if r.First[1][0] != 2 || r.Follow[1][0] != 0 {
		t.Error(r)
	}
}

// Lists that are empty may be nil: it is the same.
func TestEmptyLists(t *testing.T) {
	none := read("S = A; A =; A = a")
	full := clone(none)
	for i := range full.Prods {
		full.Prods[i].Right = append([]int{}, full.Prods[i].Right...)
		full.Prods[i].Act.Kids = []api.Act{}
	}
	if told(ask(full, []int{})) != told(ask(none, nil)) {
		t.Error("empty lists and none are not the same")
	}
	full.Prods, none.Prods = []api.Prod{}, nil
	if told(ask(full, []int{})) != told(ask(none, nil)) || gram.Check(none) != api.OK {
		t.Error("empty lists and none are not the same")
	}
}
