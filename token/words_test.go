package token_test

import (
	"fmt"
	"regexp"
	"strings"

	"quoin/api"
	"quoin/text"
)

// The chapter's section Words, by its letter: what the tests hold the package against.

var aName = regexp.MustCompile(`\A[A-Za-z_][A-Za-z0-9_]{0,63}\z`)

func areKinds(names []string) bool {
	if len(names) < 2 || len(names) > 1024 || names[0] != "end" || names[1] != "error" {
		return false
	}
	for i, a := range names {
		if i > 1 && !aName.MatchString(a) {
			return false
		}
		for _, b := range names[:i] {
			if a == b {
				return false
			}
		}
	}
	return true
}

// isWrong tells whether something is wrong with the token i of a row.
func isWrong(names []string, src string, l []api.Tok, i int) bool {
	t := l[i]
	return t.Kind < 2 || t.Kind >= len(names) ||
		t.From < 0 || t.From > t.To || t.To > len(src) ||
		i > 0 && t.From < l[i-1].To
}

// checked is what Check must answer.
func checked(names []string, src string, l []api.Tok) (int, api.Errno) {
	if !areKinds(names) {
		return 0, api.ErrKind
	}
	if len(l) > 65536 {
		return 65536, api.ErrRow
	}
	for i := range l {
		if isWrong(names, src, l, i) {
			return i, api.ErrRow
		}
	}
	return 0, api.OK
}

// lined is what Lines must answer.
func lined(names []string, src string, l []api.Tok) (string, api.Errno) {
	if _, e := checked(names, src, l); e != api.OK {
		return "", e
	}
	lines := ""
	for _, t := range l {
		if t.To-t.From > 4096 {
			return "", api.ErrLong
		}
		quoted, _ := text.Quote(src[t.From:t.To])
		lines += fmt.Sprintf("%s %d %d %s\n", names[t.Kind], t.From, t.To, quoted)
	}
	return lines, api.OK
}

// rowsOver are all rows over a text of at most so many tokens, by their lines.
func rowsOver(names []string, src string, most int) map[string][]api.Tok {
	all := map[string][]api.Tok{}
	var grow func(l []api.Tok, reached int)
	grow = func(l []api.Tok, reached int) {
		lines, _ := lined(names, src, l)
		all[lines] = append([]api.Tok{}, l...)
		if len(l) == most {
			return
		}
		for kind := 2; kind < len(names); kind++ {
			for from := reached; from <= len(src); from++ {
				for to := from; to <= len(src); to++ {
					grow(append(l[:len(l):len(l)], api.Tok{Kind: kind, From: from, To: to}), to)
				}
			}
		}
	}
	grow(nil, 0)
	return all
}

// meantBy is what Read must answer of lines, at most so many as the rows of all have tokens.
func meantBy(all map[string][]api.Tok, lines string) ([]api.Tok, api.Fault) {
	if l, is := all[lines]; is {
		return l, api.Fault{}
	}
	begun := ""
	for i, line := range strings.SplitAfter(lines, "\n") {
		begun += line
		if _, is := all[begun]; !is {
			return nil, api.Fault{Why: api.ErrForm, At: i}
		}
	}
	panic("a row's lines are not told by it")
}

// going is a cursor by the chapter's words.
type going struct {
	l  []api.Tok
	at int
}

func (g *going) peek() api.Tok {
	if g.at < len(g.l) {
		return g.l[g.at]
	}
	n := 0
	if len(g.l) > 0 {
		n = g.l[len(g.l)-1].To
	}
	return api.Tok{Kind: 0, From: n, To: n}
}

func (g *going) next() api.Tok {
	t := g.peek()
	if g.at < len(g.l) {
		g.at++
	}
	return t
}

func (g *going) back(n int) bool {
	if n < 0 || n > g.at {
		return false
	}
	g.at -= n
	return true
}
