package table_test

import (
	"reflect"
	"slices"
	"testing"

	"quoin/api"
	"quoin/table"
)

// DOC.md's R4: what is handed in is not changed and not kept, what is answered is new memory. R5: same arguments, same answers.

// roomy is a value in memory of its own, with room behind each list in which marks stand.
func roomy[T any](x T) T { return copied(reflect.ValueOf(x), true).Interface().(T) }

// clone is a value in memory of its own.
func clone[T any](x T) T { return copied(reflect.ValueOf(x), false).Interface().(T) }

func copied(v reflect.Value, isRoomy bool) reflect.Value {
	made := reflect.New(v.Type()).Elem()
	switch v.Kind() {
	case reflect.Struct:
		for i := range v.NumField() {
			made.Field(i).Set(copied(v.Field(i), isRoomy))
		}
	case reflect.Slice:
		for i := range v.Len() {
			made = reflect.Append(made, copied(v.Index(i), isRoomy))
		}
		if isRoomy {
			mark := reflect.New(v.Type().Elem()).Elem()
			spoil(mark)
			made = reflect.Append(made, mark, mark).Slice(0, v.Len())
		}
	default:
		made.Set(v)
	}
	return made
}

// spoil overwrites a value, its lists, and the room behind them.
func spoil(v reflect.Value) {
	switch v.Kind() {
	case reflect.Struct:
		for i := range v.NumField() {
			spoil(v.Field(i))
		}
	case reflect.Slice:
		l := v.Slice(0, v.Cap())
		for i := range l.Len() {
			spoil(l.Index(i))
		}
	case reflect.String:
		v.SetString("spoilt")
	case reflect.Bool:
		v.SetBool(!v.Bool())
	case reflect.Uint8:
		v.SetUint(77)
	default:
		v.SetInt(-77)
	}
}

// all is all that stands in a value, in the room behind its lists, too.
func all(x any) string { return told(room(reflect.ValueOf(x)).Interface()) }

// room is a value with the room behind its lists as parts of them.
func room(v reflect.Value) reflect.Value {
	made := reflect.New(v.Type()).Elem()
	switch v.Kind() {
	case reflect.Struct:
		for i := range v.NumField() {
			made.Field(i).Set(room(v.Field(i)))
		}
	case reflect.Slice:
		l := v.Slice(0, v.Cap())
		for i := range l.Len() {
			made = reflect.Append(made, room(l.Index(i)))
		}
	default:
		made.Set(v)
	}
	return made
}

// span is the memory of a list, with the room behind it.
type span struct{ from, to uintptr }

// spans are those of all lists of a value.
func spans(v reflect.Value) []span {
	var l []span
	switch v.Kind() {
	case reflect.Struct:
		for i := range v.NumField() {
			l = append(l, spans(v.Field(i))...)
		}
	case reflect.Slice:
		if v.Cap() > 0 {
			l = append(l, span{v.Pointer(), v.Pointer() + uintptr(v.Cap())*v.Type().Elem().Size()})
		}
		for i := range v.Cap() {
			l = append(l, spans(v.Slice(0, v.Cap()).Index(i))...)
		}
	}
	return l
}

// apart tells whether no two lists of values share memory.
func apart(l ...any) bool {
	var s []span
	for _, x := range l {
		s = append(s, spans(reflect.ValueOf(x))...)
	}
	slices.SortFunc(s, func(a, b span) int { return int(a.from) - int(b.from) })
	for i := 1; i < len(s); i++ {
		if s[i].from < s[i-1].to {
			return false
		}
	}
	return true
}

func TestApart(t *testing.T) {
	row := []int{1, 2}
	x := api.Table{Goto: [][]int{row, row[1:]}}
	if apart(x) || apart(row[:1], row[1:]) || !apart(row, clone(row)) || !apart(clone(x)) || apart([][]int{{1}}[:1], x) {
		t.Fatal("the test is wrong")
	}
}

// answers are what all calls tell of a grammar, a table, a packed one, and bytes.
type answers struct {
	Defaults, Unpacked, Read api.Table
	Packed                   api.Packed
	Moves                    []api.Move
	Goto                     []int
	Bytes                    []byte
	Sound                    int
	Whys                     []api.Errno
	Fault                    api.Fault
}

func ask(g api.Plain, x api.Table, p api.Packed, b []byte) answers {
	var made answers
	whys := make([]api.Errno, 6)
	whys[0] = table.Check(x, len(g.Kinds), len(g.Rules), len(g.Prods))
	made.Defaults, whys[1] = table.Defaults(x)
	made.Packed, whys[2] = table.Pack(x, len(g.Kinds), len(g.Rules), len(g.Prods))
	made.Unpacked, whys[3] = table.Unpack(p)
	made.Sound, whys[4] = table.Sound(g, x)
	made.Bytes, whys[5] = table.Bytes(x)
	made.Read, made.Fault = table.Read(b)
	for s := range len(p.Default) + 1 {
		for n := range 10 {
			made.Moves, made.Goto = append(made.Moves, table.Move(p, s, n)), append(made.Goto, table.Goto(p, s, n))
		}
	}
	made.Whys = whys
	return made
}

func TestArguments(t *testing.T) {
	m := newMaker(1060)
	sound, odd := 0, 0
	for n := range 1500 {
		g := m.grammar()
		x, _ := m.solved(t, g)
		if len(x.Moves) > 20 {
			continue
		}
		p, e := table.Pack(x, len(g.Kinds), len(g.Rules), len(g.Prods))
		b, eBytes := table.Bytes(x)
		if e != api.OK || eBytes != api.OK {
			t.Fatal(e, eBytes)
		}
		switch n % 10 {
		case 0:
			x.Moves[0][0].Do = 9
		case 1:
			x.Goto[0] = append(x.Goto[0], 1)
		case 2:
			b[len(b)-1] = 128
		case 3:
			g.Start = -1
		case 4:
			p.Base = p.Base[1:]
		case 5:
			p = m.packed()
		case 6:
			m.turn(&x, len(g.Prods))
		default:
			sound++
		}
		if n%10 < 7 {
			odd++
		}
		g, x, p, b = roomy(g), roomy(x), roomy(p), roomy(b)
		kept := all(g) + all(x) + all(p) + all(b)
		one, again := ask(g, x, p, b), ask(g, x, p, b)
		if all(g)+all(x)+all(p)+all(b) != kept {
			t.Fatal("an argument is changed")
		}
		if !apart(g, x, p, b, one, again) {
			t.Fatal("an answer shares memory")
		}
		want := told(one)
		spoil(reflect.ValueOf(&again).Elem())
		if told(ask(clone(g), clone(x), clone(p), clone(b))) != want || told(ask(g, x, p, b)) != want {
			t.Fatal("other answers of the same")
		}
		for _, v := range []reflect.Value{reflect.ValueOf(&g), reflect.ValueOf(&x), reflect.ValueOf(&p), reflect.ValueOf(&b)} {
			spoil(v.Elem())
		}
		if told(one) != want {
			t.Fatal("what is told hangs on what was handed in")
		}
	}
	if sound < 300 || odd < 700 {
		t.Error(sound, odd)
	}
}

// Lists that are handed in may share memory with each other: those that come do not.
func TestSharedLists(t *testing.T) {
	row, to := tab("r0 . s0").Moves[0], []int{-1, 0}
	x := api.Table{Moves: [][]api.Move{row, row}, Goto: [][]int{to, to}}
	g := read("S = A; A = a")
	p := api.Packed{Kinds: 3, Rules: 2, Default: row[:1], Base: to[1:], Check: to, Cell: row, GotoBase: to[1:], GotoCheck: to, GotoCell: to}
	kept := told(x) + told(p)
	got := ask(g, x, p, []byte{2, 2, 1, 0, 0, 0, 0, 0, 0, 0, 0, 0, 0})
	if !apart(got) || told(x)+told(p) != kept || len(got.Defaults.Moves) != 2 || len(got.Packed.Default) != 2 || len(got.Unpacked.Moves) != 1 || len(got.Read.Moves) != 2 || len(got.Bytes) == 0 {
		t.Error(told(got))
	}
}

// Lists that are empty may be nil: it is the same.
func TestEmptyLists(t *testing.T) {
	g := read("S =; a")
	none, full := tab(". . .; r0 . acc"), tab(". . .; r0 . acc")
	full.Goto = [][]int{{}, {}}
	if none.Goto[0] != nil {
		t.Fatal("the test is wrong")
	}
	p := api.Packed{Kinds: 2, Default: []api.Move{{}}, Base: []int{0}, GotoBase: []int{0}}
	q := clone(p)
	q.Check, q.Cell, q.GotoCheck, q.GotoCell = []int{}, []api.Move{}, []int{}, []int{}
	if told(ask(g, none, p, nil)) != told(ask(g, full, q, []byte{})) {
		t.Error("empty lists and none are not the same")
	}
	if told(ask(g, api.Table{}, api.Packed{}, nil)) != told(ask(g, api.Table{Moves: [][]api.Move{}, Goto: [][]int{}}, api.Packed{Default: []api.Move{}, Base: []int{}, GotoBase: []int{}}, nil)) {
		t.Error("empty lists and none are not the same")
	}
}

// Nothing is kept: what was asked ahead, of others too, turns nothing.
func TestAgain(t *testing.T) {
	m := newMaker(1061)
	for range 300 {
		g := m.grammar()
		x, _ := m.solved(t, g)
		p := m.packed()
		b, _ := table.Bytes(x)
		first := told(ask(g, x, p, b))
		other := m.grammar()
		y, _ := m.solved(t, other)
		ask(other, y, m.packed(), []byte{1, 2, 3})
		ask(g, y, m.packed(), nil)
		if told(ask(g, x, p, b)) != first {
			t.Fatal(text(g), x)
		}
	}
}
