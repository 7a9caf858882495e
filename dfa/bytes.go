package dfa

import (
	"slices"

	"quoin/api"
)

// maxNumber is the greatest number that stands in an automaton's bytes.
const maxNumber = 1<<31 - 1

// Bytes are an automaton's.
func Bytes(d api.Dfa) ([]byte, api.Errno) {
	tooGreat := func(rule int) bool { return rule > maxNumber-1 }
	if Check(d) != api.OK || slices.ContainsFunc(d.Rule, tooGreat) {
		return nil, api.ErrDfa
	}
	b := appendNumber(nil, len(d.Lows))
	ahead := rune(0)
	for _, low := range d.Lows {
		b = appendNumber(b, int(low-ahead))
		ahead = low
	}
	b = appendNumber(b, len(d.Rule))
	for s, row := range d.Next {
		b = appendNumber(b, d.Rule[s]+1)
		for _, t := range row {
			b = appendNumber(b, t+1)
		}
	}
	return b, api.OK
}

// appendNumber writes a short number behind b.
func appendNumber(b []byte, n int) []byte {
	for n >= 128 {
		b = append(b, byte(n%128+128))
		n /= 128
	}
	return append(b, byte(n))
}

// Read is the automaton of bytes.
func Read(b []byte) (api.Dfa, api.Fault) {
	r := reader{left: b}
	d := api.Dfa{Lows: r.lows()}
	states := r.count(1 + len(d.Lows))
	for range states {
		d.Rule = append(d.Rule, r.number()-1)
		row := make([]int, len(d.Lows))
		for c := range row {
			row[c] = r.number() - 1
		}
		d.Next = append(d.Next, row)
	}
	if r.wrong || len(r.left) > 0 || Check(d) != api.OK {
		return api.Dfa{}, api.Fault{Why: api.ErrDfa}
	}
	return d, api.Fault{}
}

// reader reads short numbers, till something is wrong; then all of them are 0.
type reader struct {
	left  []byte
	wrong bool
}

// number is the next number.
func (r *reader) number() int {
	n := uint64(0)
	for i, x := range r.left {
		n |= uint64(x%128) << (7 * i)
		if i == 5 || n > maxNumber || x == 0 && i > 0 {
			break
		}
		if x < 128 {
			r.left = r.left[i+1:]
			return int(n)
		}
	}
	r.left, r.wrong = nil, true
	return 0
}

// count is a number of things that have at least so many bytes each: so no more are made room for than there are bytes.
func (r *reader) count(size int) int {
	n := r.number()
	if n > len(r.left)/size {
		r.wrong = true
		return 0
	}
	return n
}

// lows are where the classes begin.
func (r *reader) lows() []rune {
	var l []rune
	low := 0
	for range r.count(1) {
		low = min(low+r.number(), api.MaxRune+1) // one more than the greatest is wrong already
		l = append(l, rune(low))
	}
	return l
}
