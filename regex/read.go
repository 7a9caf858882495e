package regex

import (
	"strings"

	"quoin/api"
	"quoin/runes"
	"quoin/text"
)

// blanks are the bytes that may stand between any two signs.
const blanks = " \t\n\r"

// maxDigits is how many digits a number has at the most.
const maxDigits = 3

// reader reads an expression. A wrong byte makes it give up: it panics with the fault.
type reader struct {
	text string
	at   int // behind the last sign that was taken
	next int // where the next one would begin
	open int // how many ( and ! are open
	pool *pool
}

// newReader is a reader of a text from a byte on; no blanks stand ahead of the first sign.
func newReader(text string, at int) *reader {
	return &reader{text: text, at: at, next: at, pool: newPool()}
}

// Parse is the expression of a text.
func Parse(text string) (api.Regex, api.Fault) {
	r := newReader(text, 0)
	x, f := r.all()
	if f == (api.Fault{}) && r.at < len(text) {
		f = api.Fault{Why: api.ErrMore, At: r.at}
	}
	if f != (api.Fault{}) {
		return api.Regex{}, f
	}
	tree, e := r.pool.answer(x)
	return tree, api.Fault{Why: e}
}

// From is the expression whose text begins at a byte, and where that ends.
func From(text string, at int) (api.Regex, int, api.Fault) {
	if at < 0 || at >= len(text) {
		return api.Regex{}, 0, api.Fault{Why: api.ErrArg}
	}
	r := newReader(text, at)
	x, f := r.all()
	if f != (api.Fault{}) {
		return api.Regex{}, 0, f
	}
	tree, e := r.pool.answer(x)
	if e != api.OK {
		return api.Regex{}, 0, api.Fault{Why: e, At: at}
	}
	return tree, r.at, api.Fault{}
}

// all reads as far as an Alt goes; where the reader gives up, its fault is told.
func (r *reader) all() (x int, f api.Fault) {
	defer func() {
		if why := recover(); why != nil {
			f = why.(api.Fault) // nothing else panics
		}
	}()
	return r.alt(), api.Fault{}
}

// giveUp ends the reading.
func (r *reader) giveUp(why api.Errno, at int) {
	panic(api.Fault{Why: why, At: at})
}

// move goes on behind what ends at a byte.
func (r *reader) move(end int) {
	r.at, r.next = end, end
	for r.next < len(r.text) && strings.IndexByte(blanks, r.text[r.next]) >= 0 {
		r.next++
	}
}

// sees tells whether the next sign begins with one of some bytes.
func (r *reader) sees(signs string) bool {
	return r.next < len(r.text) && strings.IndexByte(signs, r.text[r.next]) >= 0
}

// takes goes on behind a sign, if it is the next one.
func (r *reader) takes(sign string) bool {
	if !r.sees(sign) {
		return false
	}
	r.move(r.next + 1)
	return true
}

// must goes on behind a sign; nothing else may stand there.
func (r *reader) must(sign string) {
	if !r.takes(sign) {
		r.giveUp(api.ErrForm, r.next)
	}
}

// enter goes on behind a sign that is open till leave.
func (r *reader) enter() {
	if r.open == api.MaxNest {
		r.giveUp(api.ErrNest, r.next)
	}
	r.open++
	r.move(r.next + 1)
}

// leave closes the last sign that is open.
func (r *reader) leave() {
	r.open--
}

// alt reads an Alt, as the calls below read what they are named after; all that is made is held against the limits.
func (r *reader) alt() int {
	l := []int{r.and()}
	for r.takes("|") {
		l = append(l, r.and())
	}
	return r.pool.held(r.pool.alt(l...))
}

func (r *reader) and() int {
	l := []int{r.cat()}
	for r.takes("&") {
		l = append(l, r.cat())
	}
	return r.pool.held(r.pool.and(l...))
}

func (r *reader) cat() int {
	l := []int{r.pre()}
	for r.sees(`!([".`) {
		l = append(l, r.pre())
	}
	return r.pool.held(r.pool.cat(l...))
}

func (r *reader) pre() int {
	if !r.sees("!") {
		return r.post()
	}
	r.enter()
	x := r.pre()
	r.leave()
	return r.pool.held(r.pool.not(x))
}

func (r *reader) post() int {
	x := r.atom()
	for {
		switch {
		case r.takes("*"):
			x = r.pool.held(r.pool.star(x))
		case r.takes("+"):
			x = r.pool.repeat(x, 1, -1)
		case r.takes("?"):
			x = r.pool.repeat(x, 0, 1)
		case r.sees("{"):
			lo, hi := r.times()
			x = r.pool.repeat(x, lo, hi)
		default:
			return x
		}
	}
}

// times is how often a { } repeats; hi is -1, if there is no end.
func (r *reader) times() (lo, hi int) {
	brace := r.next
	r.must("{")
	lo = r.number()
	hi = lo
	if r.takes(",") {
		hi = -1
		if !r.sees("}") {
			hi = r.number()
		}
	}
	r.must("}")
	if e := checkTimes(lo, hi); e != api.OK {
		r.giveUp(e, brace)
	}
	return lo, hi
}

// number is a number; behind a nought ahead, or behind as many digits as it may have, it has ended.
func (r *reader) number() int {
	n, end := 0, r.next
	for end < len(r.text) && end < r.next+maxDigits && isDigit(r.text[end]) {
		n = 10*n + int(r.text[end]-'0')
		end++
		if n == 0 {
			break
		}
	}
	if end == r.next {
		r.giveUp(api.ErrForm, end)
	}
	r.move(end)
	return n
}

// isDigit tells whether a byte is a decimal digit.
func isDigit(b byte) bool {
	return '0' <= b && b <= '9'
}

func (r *reader) atom() int {
	switch {
	case r.sees("("):
		r.enter()
		x := r.alt()
		r.must(")")
		r.leave()
		return x
	case r.sees("["):
		return r.set()
	case r.sees(`"`):
		return r.quoted()
	}
	r.must(".")
	return r.pool.set([]api.Range{{Lo: 0, Hi: api.MaxRune}})
}

func (r *reader) set() int {
	s, end, f := runes.From(r.text, r.next)
	if f != (api.Fault{}) {
		panic(f)
	}
	r.move(end)
	return r.pool.set(s)
}

func (r *reader) quoted() int {
	v, end, f := text.Quoted(r.text, r.next)
	if f != (api.Fault{}) {
		panic(f)
	}
	row, f := text.Runes(v)
	if f != (api.Fault{}) {
		r.giveUp(api.ErrArg, r.next)
	}
	r.move(end)
	return r.pool.held(r.pool.word(row...))
}
