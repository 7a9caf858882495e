package table_test

import (
	"fmt"
	"math"
	"slices"
	"strconv"
	"strings"
	"testing"

	"quoin/api"
	"quoin/items"
	"quoin/solve"
	"quoin/table"
)

// The chapter's words by the letter: rows are laid by trying one base behind the other, ways are gone along forwards with all that stands behind them.

// read is the grammar of a text: productions, names, and levels of kinds, with `;` between. Words that begin with a capital letter are rules, in the order in which they come; the others are kinds, by the alphabet, behind `end` and `error`. The start is the first rule. `left a b`, `right a` and `none a` are levels, from 1 on, in the order in which they come; a production has the level of its last kind that has one.
func read(text string) api.Plain {
	pieces, levels := cut(text)
	g := api.Plain{Kinds: []string{"end", "error"}}
	words := strings.Fields(strings.ReplaceAll(strings.Join(pieces, " "), "=", " "))
	for _, w := range words {
		if isCapital(w) && !slices.Contains(g.Rules, w) {
			g.Rules = append(g.Rules, w)
		}
	}
	slices.Sort(words)
	for _, w := range words {
		if !isCapital(w) && !slices.Contains(g.Kinds, w) {
			g.Kinds = append(g.Kinds, w)
		}
	}
	g.Precs = make([]api.Prec, len(g.Kinds))
	for n, l := range levels {
		for _, kind := range symbols(g, strings.Join(l[1:], " ")) {
			g.Precs[kind] = api.Prec{Level: n + 1, Assoc: assocs()[l[0]]}
		}
	}
	for _, piece := range pieces {
		left, right, is := strings.Cut(piece, "=")
		if is {
			p := api.Prod{Left: slices.Index(g.Rules, strings.TrimSpace(left)), Right: symbols(g, right)}
			p.Level = levelOf(g, p.Right)
			g.Prods = append(g.Prods, p)
		}
	}
	return g
}

func assocs() map[string]int {
	return map[string]int{"left": api.AssocLeft, "right": api.AssocRight, "none": api.AssocNot}
}

// cut are the pieces of a grammar's text, and its levels' words.
func cut(text string) (pieces []string, levels [][]string) {
	for _, piece := range strings.Split(text, ";") {
		if l := strings.Fields(piece); len(l) > 0 && assocs()[l[0]] > 0 {
			levels = append(levels, l)
		} else {
			pieces = append(pieces, piece)
		}
	}
	return pieces, levels
}

func isCapital(word string) bool { return 'A' <= word[0] && word[0] <= 'Z' }

// levelOf is the level of the last kind of a row that has one.
func levelOf(g api.Plain, row []int) int {
	level := 0
	for _, x := range row {
		if x < len(g.Kinds) && g.Precs[x].Level > 0 {
			level = g.Precs[x].Level
		}
	}
	return level
}

// symbols are the numbers of names.
func symbols(g api.Plain, names string) []int {
	var l []int
	for _, w := range strings.Fields(names) {
		l = append(l, slices.Index(slices.Concat(g.Kinds, g.Rules), w))
	}
	return l
}

// text is a grammar's productions, by names, with the levels.
func text(g api.Plain) string {
	var l []string
	for _, p := range g.Prods {
		w := g.Rules[p.Left] + " ="
		for _, x := range p.Right {
			w += " " + slices.Concat(g.Kinds, g.Rules)[x]
		}
		l = append(l, w+" %"+strconv.Itoa(p.Level))
	}
	return strings.Join(l, "; ") + " (" + g.Rules[g.Start] + ") " + told(g.Precs)
}

// told is a value as text; an empty list is told as none is.
func told(x any) string { return fmt.Sprintf("%+v", x) }

func size(g api.Plain) int { return len(g.Kinds) + len(g.Rules) }

// tab is the table of a text: a state's moves and Goto, with `|` between and `;` behind: `.` is no move, `s1` a shift, `r0` a reduction, `acc` accepts; `-` is no Goto.
func tab(text string) api.Table {
	var x api.Table
	for _, state := range strings.Split(text, ";") {
		moves, gotos, _ := strings.Cut(state, "|")
		var row []api.Move
		for _, w := range strings.Fields(moves) {
			row = append(row, moveOf(w))
		}
		var to []int
		for _, w := range strings.Fields(gotos) {
			n, err := strconv.Atoi(w)
			if err != nil {
				n = -1
			}
			to = append(to, n)
		}
		x.Moves, x.Goto = append(x.Moves, row), append(x.Goto, to)
	}
	return x
}

func moveOf(word string) api.Move {
	n, _ := strconv.Atoi(word[1:])
	switch word[0] {
	case 's':
		return api.Move{Do: api.MoveShift, N: n}
	case 'r':
		return api.Move{Do: api.MoveReduce, N: n}
	case 'a':
		return api.Move{Do: api.MoveAccept}
	}
	return api.Move{}
}

// wordMayBe is which tables may be.
func wordMayBe(x api.Table, kinds, rules, prods int) bool {
	states := len(x.Moves)
	if states < 1 || states > 4096 || len(x.Goto) != states {
		return false
	}
	for s := range states {
		if len(x.Moves[s]) != kinds || len(x.Goto[s]) != rules {
			return false
		}
		for _, m := range x.Moves[s] {
			most, is := map[int]int{api.MoveError: 0, api.MoveShift: states - 1, api.MoveReduce: prods - 1, api.MoveAccept: 0}[m.Do]
			if !is || m.N < 0 || m.N > most {
				return false
			}
		}
		for _, to := range x.Goto[s] {
			if to < -1 || to > states-1 {
				return false
			}
		}
	}
	return true
}

// wordIsEven is which tables Defaults takes.
func wordIsEven(x api.Table) bool {
	isEven := len(x.Moves) > 0 && len(x.Moves) == len(x.Goto) && len(x.Moves[0]) > 0
	for s := 0; isEven && s < len(x.Moves); s++ {
		isEven = len(x.Moves[s]) == len(x.Moves[0]) && len(x.Goto[s]) == len(x.Goto[0])
	}
	return isEven
}

// wordDefault is the default of a state: each reduction of it is counted anew.
func wordDefault(row []api.Move) api.Move {
	var best api.Move
	most := 0
	for _, m := range row {
		often := 0
		for _, other := range row {
			if m.Do == api.MoveReduce && other == m {
				often++
			}
		}
		if often > most || often == most && often > 0 && m.N < best.N {
			best, most = m, often
		}
	}
	return best
}

func wordDefaults(x api.Table) api.Table {
	x = clone(x)
	for s, row := range x.Moves {
		d := wordDefault(row)
		for kind, m := range row {
			if m.Do == api.MoveError {
				x.Moves[s][kind] = d
			}
		}
	}
	return x
}

// wordLay lays rows, which are told by what of them are entries: of each row the base, and of each place whose it is.
func wordLay(rows [][]bool, least int) ([]int, []int) {
	bases, whose := make([]int, len(rows)), slices.Repeat([]int{-1}, least)
	count := func(row []bool) int {
		n := 0
		for _, is := range row {
			if is {
				n++
			}
		}
		return n
	}
	for entries := least; entries > 0; entries-- {
		for s, row := range rows {
			if count(row) != entries {
				continue
			}
			for !fits(whose, row, bases[s]) {
				bases[s]++
			}
			for column, is := range row {
				for is && len(whose) <= bases[s]+column {
					whose = append(whose, -1)
				}
				if is {
					whose[bases[s]+column] = s
				}
			}
		}
	}
	return bases, whose
}

func fits(whose []int, row []bool, base int) bool {
	for column, is := range row {
		if is && base+column < len(whose) && whose[base+column] != -1 {
			return false
		}
	}
	return true
}

func wordPack(x api.Table, kinds, rules int) api.Packed {
	p := api.Packed{Kinds: kinds, Rules: rules}
	var moves, gotos [][]bool
	for s := range x.Moves {
		d := wordDefault(x.Moves[s])
		var move, to []bool
		for _, m := range x.Moves[s] {
			move = append(move, m.Do != api.MoveError && m != d)
		}
		for _, n := range x.Goto[s] {
			to = append(to, n != -1)
		}
		p.Default, moves, gotos = append(p.Default, d), append(moves, move), append(gotos, to)
	}
	p.Base, p.Check = wordLay(moves, kinds)
	p.GotoBase, p.GotoCheck = wordLay(gotos, rules)
	for place, s := range p.Check {
		var m api.Move
		if s != -1 {
			m = x.Moves[s][place-p.Base[s]]
		}
		p.Cell = append(p.Cell, m)
	}
	for place, s := range p.GotoCheck {
		to := 0
		if s != -1 {
			to = x.Goto[s][place-p.GotoBase[s]]
		}
		p.GotoCell = append(p.GotoCell, to)
	}
	return p
}

// wordPlace is the place of a column by a state's base: each number of the list is tried.
func wordPlace(bases, whose []int, state, column int) int {
	if state < len(bases) {
		for place := range whose {
			if whose[place] == state && place-column == bases[state] {
				return place
			}
		}
	}
	return -1
}

func wordMove(p api.Packed, state, kind int) api.Move {
	if state < 0 || state >= len(p.Default) || kind < 0 || kind >= p.Kinds {
		return api.Move{}
	}
	if place := wordPlace(p.Base, p.Check, state, kind); place != -1 && place < len(p.Cell) {
		return p.Cell[place]
	}
	return p.Default[state]
}

func wordGoto(p api.Packed, state, rule int) int {
	if state < 0 || state >= len(p.Default) || rule < 0 || rule >= p.Rules {
		return -1
	}
	if place := wordPlace(p.GotoBase, p.GotoCheck, state, rule); place != -1 && place < len(p.GotoCell) {
		return p.GotoCell[place]
	}
	return -1
}

// wordUnpack is the table that a packed one says; false, if it may say none.
func wordUnpack(p api.Packed) (api.Table, bool) {
	states := len(p.Default)
	if states < 1 || states > 4096 || p.Kinds < 2 || p.Kinds > 1024 || p.Rules < 0 || p.Rules > 2048 || len(p.Base) != states || len(p.GotoBase) != states {
		return api.Table{}, false
	}
	var x api.Table
	for s := range states {
		var row []api.Move
		for kind := range p.Kinds {
			row = append(row, wordMove(p, s, kind))
		}
		var to []int
		for rule := range p.Rules {
			to = append(to, wordGoto(p, s, rule))
		}
		x.Moves, x.Goto = append(x.Moves, row), append(x.Goto, to)
	}
	return x, true
}

// end is the end of a way: its last states, and the symbols by which they are led to. One with less symbols than others may have is a whole way.
type end struct{ states, symbols []int }

// wordEnds are all ends of ways of so many symbols, and all shorter ways.
func wordEnds(g api.Plain, x api.Table, most int) []end {
	l := []end{{states: []int{0}}}
	met := map[string]int{told(l[0]): 1}
	for at := 0; at < len(l); at++ {
		last := l[at].states[len(l[at].states)-1]
		for symbol := range size(g) {
			to := -1
			if symbol >= len(g.Kinds) {
				to = x.Goto[last][symbol-len(g.Kinds)]
			} else if m := x.Moves[last][symbol]; m.Do == api.MoveShift {
				to = m.N
			}
			if to == -1 {
				continue
			}
			e := end{append(slices.Clone(l[at].states), to), append(slices.Clone(l[at].symbols), symbol)}
			if len(e.symbols) > most {
				e = end{e.states[1:], e.symbols[1:]}
			}
			if met[told(e)]++; met[told(e)] == 1 {
				l = append(l, e)
			}
		}
	}
	return l
}

// wordSound is the least state of which something is not so; -1, if the table is sound.
func wordSound(g api.Plain, x api.Table) int {
	most := 2
	for _, p := range g.Prods {
		most = max(most, len(p.Right))
	}
	least := -1
	for _, e := range wordEnds(g, x, most) {
		s := e.states[len(e.states)-1]
		for kind, m := range x.Moves[s] {
			if !wordIsSo(g, x, e, kind, m) && (least == -1 || s < least) {
				least = s
			}
		}
	}
	return least
}

// wordIsSo tells whether a way with that end may lead to a move.
func wordIsSo(g api.Plain, x api.Table, e end, kind int, m api.Move) bool {
	switch m.Do {
	case api.MoveAccept:
		return kind == api.KindEnd && slices.Equal(e.symbols, []int{len(g.Kinds) + g.Start})
	case api.MoveReduce:
		p := g.Prods[m.N]
		ahead := len(e.symbols) - len(p.Right)
		return ahead >= 0 && slices.Equal(e.symbols[ahead:], p.Right) && x.Goto[e.states[ahead]][p.Left] != -1
	}
	return true
}

// wordNumber is a short number.
func wordNumber(n int) []byte {
	if n < 128 {
		return []byte{byte(n)}
	}
	return append([]byte{byte(128 + n%128)}, wordNumber(n/128)...)
}

// wordBytes are a table's; false, if it has none.
func wordBytes(x api.Table) ([]byte, bool) {
	if !wordIsEven(x) {
		return nil, false
	}
	l := []int{len(x.Moves), len(x.Moves[0]), len(x.Goto[0])}
	for s, row := range x.Moves {
		for _, m := range row {
			l = append(l, m.Do, m.N)
		}
		for _, to := range x.Goto[s] {
			if to == math.MaxInt { // there is no number that is one more
				return nil, false
			}
			l = append(l, to+1)
		}
	}
	var b []byte
	for _, n := range l {
		if n < 0 || n > 1<<31-1 {
			return nil, false
		}
		b = append(b, wordNumber(n)...)
	}
	return b, true
}

// wordRead is the table whose bytes these are: what can be read of them must have them.
func wordRead(b []byte) (api.Table, bool) {
	at := 0
	next := func() int {
		n, times := 0, 1
		for at < len(b) && times < 1<<49 {
			x := int(b[at])
			at++
			n += x % 128 * times
			times *= 128
			if x < 128 {
				break
			}
		}
		return n
	}
	states, kinds, rules := next(), next(), next()
	if states > len(b) || kinds > len(b) || rules > len(b) {
		return api.Table{}, false
	}
	var x api.Table
	for range states {
		row, to := make([]api.Move, kinds), make([]int, rules)
		for kind := range row {
			row[kind].Do = next()
			row[kind].N = next()
		}
		for rule := range to {
			to[rule] = next() - 1
		}
		x.Moves, x.Goto = append(x.Moves, row), append(x.Goto, to)
	}
	if mine, is := wordBytes(x); !is || !slices.Equal(mine, b) {
		return api.Table{}, false
	}
	return x, true
}

// likeWords holds all calls that take a table against the words.
func likeWords(t *testing.T, g api.Plain, x api.Table) {
	t.Helper()
	likeCheck(t, x, len(g.Kinds), len(g.Rules), len(g.Prods))
	likeDefaults(t, x)
	likePack(t, x, len(g.Kinds), len(g.Rules), len(g.Prods))
	likeSound(t, g, x)
	likeBytes(t, x)
}

func likeCheck(t *testing.T, x api.Table, kinds, rules, prods int) {
	t.Helper()
	want := api.ErrTable
	if wordMayBe(x, kinds, rules, prods) {
		want = api.OK
	}
	if e := table.Check(x, kinds, rules, prods); e != want {
		t.Fatalf("%+v, %d, %d, %d: %v", x, kinds, rules, prods, e)
	}
}

func likeDefaults(t *testing.T, x api.Table) {
	t.Helper()
	y, e := table.Defaults(x)
	if !wordIsEven(x) {
		if e != api.ErrTable || told(y) != told(api.Table{}) {
			t.Fatalf("%+v: Defaults: %+v, %v", x, y, e)
		}
		return
	}
	if e != api.OK || told(y) != told(wordDefaults(x)) {
		t.Fatalf("%+v: Defaults: %+v, %v", x, y, e)
	}
}

// likePack holds Pack, and what is asked of the packed table.
func likePack(t *testing.T, x api.Table, kinds, rules, prods int) {
	t.Helper()
	p, e := table.Pack(x, kinds, rules, prods)
	if !wordMayBe(x, kinds, rules, prods) {
		if e != api.ErrTable || told(p) != told(api.Packed{}) {
			t.Fatalf("%+v: Pack: %+v, %v", x, p, e)
		}
		return
	}
	if want := wordPack(x, kinds, rules); e != api.OK || told(p) != told(want) {
		t.Fatalf("%+v: Pack:\n%+v, %v, not\n%+v", x, p, e, want)
	}
	likePacked(t, p)
	y, e := table.Unpack(p)
	if e != api.OK || told(y) != told(wordDefaults(x)) {
		t.Fatalf("%+v: Unpack of Pack: %+v, %v", x, y, e)
	}
}

// likePacked holds Move, Goto and Unpack of any packed table.
func likePacked(t *testing.T, p api.Packed) {
	t.Helper()
	for s := -1; s <= len(p.Default); s++ {
		for n := -1; n <= min(max(p.Kinds, p.Rules), 12); n++ {
			if m := table.Move(p, s, n); m != wordMove(p, s, n) {
				t.Fatalf("%+v: Move of %d and %d: %v", p, s, n, m)
			}
			if to := table.Goto(p, s, n); to != wordGoto(p, s, n) {
				t.Fatalf("%+v: Goto of %d and %d: %v", p, s, n, to)
			}
		}
	}
	x, e := table.Unpack(p)
	want, is := wordUnpack(p)
	why := api.ErrTable
	if is {
		why = api.OK
	}
	if e != why || told(x) != told(want) {
		t.Fatalf("%+v: Unpack: %+v, %v", p, x, e)
	}
}

func likeSound(t *testing.T, g api.Plain, x api.Table) bool {
	t.Helper()
	n, e := table.Sound(g, x)
	want := -1
	if !wordMayBe(x, len(g.Kinds), len(g.Rules), len(g.Prods)) {
		want = 0
	} else {
		want = wordSound(g, x)
	}
	if want == -1 && (n != 0 || e != api.OK) || want != -1 && (n != want || e != api.ErrTable) {
		t.Fatalf("%s: %+v: Sound: %d, %v, not %d", text(g), x, n, e, want)
	}
	return want == -1
}

func likeBytes(t *testing.T, x api.Table) {
	t.Helper()
	want, is := wordBytes(x)
	b, e := table.Bytes(x)
	if !is {
		if e != api.ErrTable || len(b) > 0 {
			t.Fatalf("%+v: Bytes: %v, %v", x, b, e)
		}
		return
	}
	if e != api.OK || !slices.Equal(b, want) {
		t.Fatalf("%+v: Bytes: %v, %v", x, b, e)
	}
	if y, f := table.Read(b); f != (api.Fault{}) || told(y) != told(x) {
		t.Fatalf("%+v: Read of Bytes: %+v, %v", x, y, f)
	}
}

func likeRead(t *testing.T, b []byte) bool {
	t.Helper()
	want, is := wordRead(b)
	x, f := table.Read(b)
	why := api.Fault{Why: api.ErrTable}
	if is {
		why = api.Fault{}
	}
	if told(x) != told(want) || f != why {
		t.Fatalf("%v: Read: %+v, %v, not %+v", b, x, f, want)
	}
	return is
}

// solved is the table of a grammar's canonical automaton.
func solved(t *testing.T, g api.Plain) api.Table {
	t.Helper()
	a, e := items.Build(g)
	x, _, eSolve := solve.Solve(g, a)
	if e != api.OK || eSolve != api.OK {
		t.Fatal(text(g), e, eSolve)
	}
	return x
}
