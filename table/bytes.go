package table

import (
	"quoin/api"
	"quoin/short"
)

// bytes are a table's, all of whose numbers are among those that are written.
func (f frame) bytes() []byte {
	b := short.Append(nil, len(f.Moves))
	b = short.Append(b, f.kinds)
	b = short.Append(b, f.rules)
	for s, row := range f.Moves {
		for _, m := range row {
			b = short.Append(b, m.Do)
			b = short.Append(b, m.N)
		}
		for _, to := range f.Goto[s] {
			b = short.Append(b, to+1)
		}
	}
	return b
}

// read is the table of bytes; false, if there is none.
func read(b []byte) (api.Table, bool) {
	r := short.NewReader(b)
	states, kinds, rules := r.Number(), r.Number(), r.Number()
	if states == 0 || kinds == 0 || !r.Fit(states, 2*kinds+rules) {
		return api.Table{}, false
	}
	var t api.Table
	for range states {
		row := make([]api.Move, kinds)
		for kind := range row {
			row[kind].Do = r.Number()
			row[kind].N = r.Number()
		}
		gotos := make([]int, rules)
		for rule := range gotos {
			gotos[rule] = r.Number() - 1
		}
		t.Moves, t.Goto = append(t.Moves, row), append(t.Goto, gotos)
	}
	return t, r.IsDone()
}
