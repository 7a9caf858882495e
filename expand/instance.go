package expand

import (
	"strings"

	"quoin/api"
)

// maxHeight is how many instances may stand within one another as arguments; a rule that hands itself greater and greater ones has no end.
const maxHeight = 8

// A symbol is, here, the number of a kind, or how many kinds there are and the number of an instance that was met.

// instance is a rule, by its place, with a symbol for each parameter; behind these there are noughts, so that equal ones are the same.
type instance struct {
	rule int
	args [api.MaxParams]int
}

// facts are what is known of an instance.
type facts struct {
	instance
	height int
	bytes  int // of its text
	place  int // among the grammar's rules; -1: it is none of them
}

// instances are all that were met, those that are only arguments, too.
type instances struct {
	*module
	numbers map[instance]int
	met     []facts
}

// symbol is what a symbol of an instance's alternative stands for.
func (l *instances) symbol(r api.Ref, in instance) int {
	x := l.meant(r.Name, l.Rules[in.rule].Params)
	switch x.sort {
	case paramSort:
		return in.args[x.place]
	case kindSort:
		return x.place
	}
	made := instance{rule: x.place}
	for i, a := range r.Args {
		made.args[i] = l.symbol(a, in)
	}
	return len(l.kinds) + l.number(made)
}

// number is an instance's number, which it gets when it is first met. One that is too high gives up.
func (l *instances) number(x instance) int {
	if n, is := l.numbers[x]; is {
		return n
	}
	f := l.factsOf(x)
	if f.height > maxHeight {
		panic(api.ErrEndless)
	}
	n := len(l.met)
	l.numbers[x] = n
	l.met = append(l.met, f)
	return n
}

// factsOf is what is known of an instance that is first met.
func (l *instances) factsOf(x instance) facts {
	f := facts{instance: x, height: 1, bytes: len(l.line(x).Name), place: -1}
	for _, s := range l.arguments(x) {
		if a := l.known(s); a != nil {
			f.height = max(f.height, 1+a.height)
			f.bytes += a.bytes
		} else {
			f.bytes += len(l.kinds[s])
		}
		f.bytes += len(", ") // as many as there are arguments: the brackets count as one of them
	}
	return f
}

// line is an instance's rule.
func (l *instances) line(x instance) api.RuleLine {
	return l.Rules[x.rule]
}

// arguments are the symbols of which an instance is.
func (l *instances) arguments(x instance) []int {
	return x.args[:len(l.line(x).Params)]
}

// known is what is known of a symbol, if it is an instance; nil, if it is a kind.
func (l *instances) known(symbol int) *facts {
	if symbol < len(l.kinds) {
		return nil
	}
	return &l.met[symbol-len(l.kinds)]
}

// write adds a symbol's text.
func (l *instances) write(b *strings.Builder, symbol int) {
	f := l.known(symbol)
	if f == nil {
		b.WriteString(l.kinds[symbol])
		return
	}
	b.WriteString(l.line(f.instance).Name)
	ahead := "("
	for _, s := range l.arguments(f.instance) {
		b.WriteString(ahead)
		l.write(b, s)
		ahead = ", "
	}
	if ahead != "(" {
		b.WriteString(")")
	}
}
