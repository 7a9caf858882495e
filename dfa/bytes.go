package dfa

import (
	"slices"

	"quoin/api"
	"quoin/short"
)

// Bytes are an automaton's.
func Bytes(d api.Dfa) ([]byte, api.Errno) {
	tooGreat := func(rule int) bool { return rule > short.Max-1 }
	if Check(d) != api.OK || slices.ContainsFunc(d.Rule, tooGreat) {
		return nil, api.ErrDfa
	}
	b := short.Append(nil, len(d.Lows))
	ahead := rune(0)
	for _, low := range d.Lows {
		b = short.Append(b, int(low-ahead))
		ahead = low
	}
	b = short.Append(b, len(d.Rule))
	for s, row := range d.Next {
		b = short.Append(b, d.Rule[s]+1)
		for _, t := range row {
			b = short.Append(b, t+1)
		}
	}
	return b, api.OK
}

// Read is the automaton of bytes.
func Read(b []byte) (api.Dfa, api.Fault) {
	r := short.NewReader(b)
	d := api.Dfa{Lows: lows(r)}
	for range count(r, 1+len(d.Lows)) {
		d.Rule = append(d.Rule, r.Number()-1)
		row := make([]int, len(d.Lows))
		for c := range row {
			row[c] = r.Number() - 1
		}
		d.Next = append(d.Next, row)
	}
	if !r.IsDone() || Check(d) != api.OK {
		return api.Dfa{}, api.Fault{Why: api.ErrDfa}
	}
	return d, api.Fault{}
}

// count is a number of things that have at least so many bytes each; 0, if so many can't follow.
func count(r *short.Reader, size int) int {
	n := r.Number()
	if !r.Fit(n, size) {
		return 0
	}
	return n
}

// lows are where the classes begin.
func lows(r *short.Reader) []rune {
	var l []rune
	low := 0
	for range count(r, 1) {
		low = min(low+r.Number(), api.MaxRune+1) // one more than the greatest is wrong already
		l = append(l, rune(low))
	}
	return l
}
