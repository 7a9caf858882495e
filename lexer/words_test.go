package lexer_test

import (
	"math/rand"
	"slices"
	"testing"

	"quoin/api"
	"quoin/lexer"
	"quoin/regex"
	"quoin/text"
)

// The chapter's words by the letter: what a rule takes is asked of its expression, rune by rune, and a run begins anew at each place; no automaton is made.

// parse is an expression that is written right.
func parse(t testing.TB, s string) api.Regex {
	t.Helper()
	r, f := regex.Parse(s)
	if f != (api.Fault{}) {
		t.Fatal(s, f)
	}
	return r
}

// rule is a rule that tells a kind.
func rule(t testing.TB, re string, kind int) api.LexRule {
	t.Helper()
	return api.LexRule{Re: parse(t, re), Kind: kind}
}

// turning is a rule that turns modes.
func turning(t testing.TB, re string, kind, push int, pop bool) api.LexRule {
	t.Helper()
	return api.LexRule{Re: parse(t, re), Kind: kind, Push: push, Pop: pop}
}

// scanner is one of these modes.
func scanner(modes ...[]api.LexRule) api.Scanner { return api.Scanner{Modes: modes} }

// plain is a scanner of one mode, whose rules tell the kinds from 2 on.
func plain(t testing.TB, l ...string) api.Scanner {
	t.Helper()
	var rules []api.LexRule
	for i, re := range l {
		rules = append(rules, rule(t, re, 2+i))
	}
	return scanner(rules)
}

// made is a lexer that New must not refuse.
func made(t testing.TB, s api.Scanner) *lexer.Lexer {
	t.Helper()
	l, e := lexer.New(s)
	if l == nil || e != api.OK {
		t.Fatal("not made:", e)
	}
	return l
}

func tok(kind, from, to int) api.Tok { return api.Tok{Kind: kind, From: from, To: to} }

func fault(why api.Errno, at int) api.Fault { return api.Fault{Why: why, At: at} }

// none is the zero fault.
var none = api.Fault{}

// beginnings has all bytes with which a rune's begin, but whole ones.
var beginnings = func() map[string]struct{} {
	m := map[string]struct{}{}
	for c := range rune(api.MaxRune + 1) {
		s, _ := text.Encode(c) // of none's: nothing
		for n := 1; n < len(s); n++ {
			m[s[:n]] = struct{}{}
		}
	}
	return m
}()

// notWhole tells whether a text is no whole piece, or nothing.
func notWhole(s string) bool {
	_, begins := beginnings[s]
	return s == "" || begins
}

// asked are expressions, each once, with what was asked of them; a row of them is told by their numbers.
type asked struct {
	numbers map[string]int
	list    []api.Regex
	empty   []bool         // whether they take the empty row
	runes   [][]rune       // of texts, one at least of all that they do not tell apart
	steps   map[[2]int]int // by a number and a rune
	some    map[int]bool
}

func newAsked() *asked {
	return &asked{numbers: map[string]int{}, steps: map[[2]int]int{}, some: map[int]bool{}}
}

// number is an expression's.
func (a *asked) number(r api.Regex) int {
	name, _ := regex.Text(r)
	n, there := a.numbers[name]
	if !there {
		n = len(a.list)
		a.numbers[name] = n
		a.list = append(a.list, r)
		a.empty = append(a.empty, regex.Nullable(r))
		a.runes = append(a.runes, samples(r))
	}
	return n
}

// step is an expression's derivative.
func (a *asked) step(n int, c rune) int {
	to, there := a.steps[[2]int{n, int(c)}]
	if !there {
		d, _ := regex.Derive(a.list[n], c)
		to = a.number(d)
		a.steps[[2]int{n, int(c)}] = to
	}
	return to
}

// left is what expressions may go on with behind a rune.
func (a *asked) left(l []int, c rune) []int {
	var behind []int
	for _, n := range l {
		behind = append(behind, a.step(n, c))
	}
	return behind
}

func (a *asked) takesEmpty(n int) bool { return a.empty[n] }

// samples are runes of texts, one at least of all that an expression does not tell apart.
func samples(r api.Regex) []rune {
	cuts, _ := regex.Cuts(r)
	if slices.ContainsFunc(cuts, isOfNoText) {
		cuts = append(cuts, 0xE000)
	}
	return slices.DeleteFunc(cuts, isOfNoText)
}

func isOfNoText(c rune) bool { return c >= 0xD800 && c < 0xE000 }

// any tells whether an expression takes some row of a text's runes.
func (a *asked) any(n int) bool {
	if known, there := a.some[n]; there {
		return known
	}
	met := map[int]struct{}{n: {}}
	for l := []int{n}; len(l) > 0; l = l[1:] {
		if a.takesEmpty(l[0]) {
			a.some[n] = true
			return true
		}
		for _, c := range a.runes[l[0]] {
			to := a.step(l[0], c)
			if _, again := met[to]; !again {
				met[to] = struct{}{}
				l = append(l, to)
			}
		}
	}
	a.some[n] = false
	return false
}

// meant is a run by the words.
type meant struct {
	asked   *asked
	scanner api.Scanner
	came    string
	ended   bool
	place   int
	modes   []int
	toks    []api.Tok
	matches []match
	fault   api.Fault
}

// match is one of a run: in a mode, by a rule, both from 0 on.
type match struct{ mode, rule, from, to int }

func newMeant(s api.Scanner) *meant {
	return &meant{asked: newAsked(), scanner: s, modes: []int{1}}
}

// copied is another one that stands so.
func (m *meant) copied() *meant {
	c := *m
	c.modes, c.toks, c.matches = slices.Clone(m.modes), slices.Clone(m.toks), slices.Clone(m.matches)
	return &c
}

func (m *meant) rules() []api.LexRule { return m.scanner.Modes[m.modes[len(m.modes)-1]-1] }

// look is the match at the place (rule -1, if there is none), and whether it is certain.
func (m *meant) look() (size, rule int, certain bool) {
	var l []int
	for _, r := range m.rules() {
		l = append(l, m.asked.number(r.Re))
	}
	rest, at, rule := m.came[m.place:], 0, -1
	for {
		if n := slices.IndexFunc(l, m.asked.takesEmpty); n >= 0 && at > 0 {
			size, rule = at, n
			if !m.anyBehind(l) {
				return size, rule, true
			}
		}
		if !m.ended && notWhole(rest[at:]) {
			return 0, 0, false
		}
		c, bytes, isRune := text.Next(rest, at)
		if !isRune || !slices.ContainsFunc(m.asked.left(l, c), m.asked.any) {
			return size, rule, true
		}
		l = m.asked.left(l, c)
		at += bytes
	}
}

// anyBehind tells whether one can go on by some rune.
func (m *meant) anyBehind(l []int) bool {
	for _, n := range l {
		for _, c := range m.asked.runes[n] {
			if slices.ContainsFunc(m.asked.left(l, c), m.asked.any) {
				return true
			}
		}
	}
	return false
}

// goOver goes over what came as far as it is certain: how many tokens more there are.
func (m *meant) goOver() int {
	had := len(m.toks)
	for m.place < len(m.came) && m.fault == none {
		size, rule, certain := m.look()
		if !certain {
			break
		}
		m.fault = m.take(size, rule)
	}
	return len(m.toks) - had
}

// take is what a match does.
func (m *meant) take(size, rule int) api.Fault {
	if rule < 0 {
		if _, _, isRune := text.Next(m.came, m.place); !isRune {
			return fault(api.ErrUtf8, m.place)
		}
		return fault(api.ErrLex, m.place)
	}
	r, to := m.rules()[rule], m.place+size
	m.matches = append(m.matches, match{m.modes[len(m.modes)-1] - 1, rule, m.place, to})
	if r.Pop {
		if len(m.modes) == 1 {
			return fault(api.ErrMode, m.place)
		}
		m.modes = m.modes[:len(m.modes)-1]
	}
	if r.Push > 0 {
		if len(m.modes) == 256 {
			return fault(api.ErrModes, m.place)
		}
		m.modes = append(m.modes, r.Push)
	}
	if r.Kind > 0 {
		if len(m.toks) == 1<<16 {
			return fault(api.ErrLong, m.place)
		}
		m.toks = append(m.toks, tok(r.Kind, m.place, to))
	}
	m.place = to
	return none
}

// feed is Feed by the words: the tokens that it tells, and the fault.
func (m *meant) feed(parts ...string) ([]api.Tok, api.Fault) {
	if m.fault != none {
		return nil, m.fault
	}
	if m.ended {
		return nil, fault(api.ErrFull, len(m.came))
	}
	for _, part := range parts {
		m.came += part
	}
	n := m.goOver()
	return m.toks[len(m.toks)-n:], m.fault
}

// end is End by the words.
func (m *meant) end() ([]api.Tok, api.Fault) {
	if _, f := m.feed(); f != none {
		return nil, f
	}
	m.ended = true
	return m.feed0()
}

// feed0 goes over what is left when nothing more comes.
func (m *meant) feed0() ([]api.Tok, api.Fault) {
	n := m.goOver()
	return m.toks[len(m.toks)-n:], m.fault
}

// allOf is All by the words.
func allOf(s api.Scanner, src string) *meant {
	m := newMeant(s)
	m.came, m.ended = src, true
	m.goOver()
	return m
}

// stands tells whether a lexer stands as the words say.
func stands(t testing.TB, l *lexer.Lexer, m *meant) {
	t.Helper()
	if l.At() != m.place || !slices.Equal(l.Modes(), m.modes) || l.Wait() != m.came[m.place:] || l.Fault() != m.fault {
		t.Fatalf("behind %q: at %d, modes %v, %q waits, fault %v; and not %d, %v, %q, %v", m.came, l.At(), l.Modes(), l.Wait(), l.Fault(), m.place, m.modes, m.came[m.place:], m.fault)
	}
}

// isAt tells whether a lexer stands so.
func isAt(t testing.TB, l *lexer.Lexer, at int, modes []int, wait string, f api.Fault) {
	t.Helper()
	if l.At() != at || !slices.Equal(l.Modes(), modes) || l.Wait() != wait || l.Fault() != f {
		t.Errorf("at %d, modes %v, %q waits, fault %v; and not %d, %v, %q, %v", l.At(), l.Modes(), l.Wait(), l.Fault(), at, modes, wait, f)
	}
}

// tells holds what was told against what should be.
func tells(t testing.TB, l []api.Tok, f api.Fault, want api.Fault, toks ...api.Tok) {
	t.Helper()
	if !slices.Equal(l, toks) || f != want {
		t.Errorf("%v, %v are told, and not %v, %v", l, f, toks, want)
	}
}

// someRules are expressions that part late, fall back, hide one another, or have numbers that come of no text.
var someRules = []string{
	`"a"`, `"ab"`, `"abc"`, `"abcd"`, `"b"`, `"ba"`, `"c"`, `"a"+`, `[a-c]+`, `[ab]* "c"`, `"a"* "b"`, `("ab")+`, `("ab")+ "c"`, `"a" .{3}`, `.`, `.{2}`, `"aa"+`, `[]`,
	`"é"`, `"a" "é"`, `"€"`, `"€€"`, `"€"+ "a"`, `[\u{80}-\u{10ffff}]`, `[\u{80}-\u{10ffff}]+ "b"`, `"😀"`, `"😀a"`, `"\u{fffd}"`, `[\u{7f}-\u{81}]`, `"\x00"`,
	`!(.* "aa" .*) & .+`, `.* "b" & .{1,3}`, `"c" !(.* "c" .*) "c"`, `[^a]`, `[^a-c]+`,
	`[\u{d800}-\u{dfff}]`, `"a" [\u{d800}-\u{dfff}]`, `"ba" [\u{d8ff}] "a"`, `"b" [\u{d800}-\u{e000}]`, `[\u{d7ff}-\u{dfff}]`, `[\u{d900}-\u{10ffff}]+`, `"a" [\u{dfff}b]`,
}

// someScanner is one of few rules, in up to three modes.
func someScanner(t testing.TB, chance *rand.Rand) api.Scanner {
	t.Helper()
	s := api.Scanner{Modes: make([][]api.LexRule, 1+chance.Intn(3))}
	for i := range s.Modes {
		for range chance.Intn(6) {
			r := rule(t, someRules[chance.Intn(len(someRules))], chance.Intn(5))
			if r.Kind == 1 {
				r.Kind = api.MaxKinds - 1
			}
			if chance.Intn(3) == 0 {
				r.Push = chance.Intn(len(s.Modes) + 1)
			}
			r.Pop = chance.Intn(5) == 0
			s.Modes[i] = append(s.Modes[i], r)
		}
	}
	return s
}

// someText is bits of texts, some of them no runes' bytes.
func someText(chance *rand.Rand, most int) string {
	bits := []string{"a", "a", "a", "b", "b", "c", "d", "ab", "abc", " ", "é", "€", "😀", "\ufffd", "\ud7ff", "\ue000", "\x00", "\x7f", "\u0080", "\xe2", "\x82", "\xac", "\xf0\x9f", "\x98\x80", "\xed", "\xa0\x80", "\xc3", "\xff"}
	few := bits[:1+chance.Intn(len(bits))] // so that many texts are taken
	s := ""
	for range chance.Intn(most + 1) {
		s += few[chance.Intn(len(few))]
	}
	return s
}

// cut is a text in parts.
func cut(chance *rand.Rand, s string) []string {
	var l []string
	for s != "" {
		n := chance.Intn(min(len(s), 1+chance.Intn(6)) + 1)
		l = append(l, s[:n])
		s = s[n:]
	}
	return l
}
