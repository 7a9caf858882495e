package token

import (
	"strconv"
	"strings"

	"quoin/api"
	"quoin/text"
)

// Lines are a row's.
func Lines(names []string, src string, l []api.Tok) (string, api.Errno) {
	if _, e := Check(names, src, l); e != api.OK {
		return "", e
	}
	var b strings.Builder
	for _, t := range l {
		line, e := lineOf(names, src, t)
		if e != api.OK {
			return "", e
		}
		b.WriteString(line)
		b.WriteByte('\n')
	}
	return b.String(), api.OK
}

// lineOf is the line, without its end, of a token of a row that may be.
func lineOf(names []string, src string, t api.Tok) (string, api.Errno) {
	quoted, e := text.Quote(src[t.From:t.To])
	if e != api.OK {
		return "", e
	}
	return names[t.Kind] + " " + strconv.Itoa(t.From) + " " + strconv.Itoa(t.To) + " " + quoted, api.OK
}

// Read is the row of lines.
func Read(names []string, src, lines string) ([]api.Tok, api.Fault) {
	if e := Kinds(names...); e != api.OK {
		return nil, api.Fault{Why: e}
	}
	var l []api.Tok
	r := reader{ground{names: names, src: src}, numbers(names)}
	for lines != "" {
		line, rest, ended := strings.Cut(lines, "\n")
		t, isToken := r.token(line)
		if !isToken || !ended || len(l) == api.MaxToks {
			return nil, api.Fault{Why: api.ErrForm, At: len(l)}
		}
		l = append(l, t)
		lines = rest
	}
	return l, api.Fault{}
}

// reader reads lines, one behind the other; kinds are numbers by names.
type reader struct {
	ground
	kinds map[string]int
}

// token is the token whose line, without its end, this is, behind those that were read.
func (r *reader) token(line string) (api.Tok, bool) {
	parts := strings.SplitN(line, " ", 4) // there may be blanks between the quotes
	if len(parts) < 4 {
		return api.Tok{}, false
	}
	kind, isKind := r.kinds[parts[0]]
	from, noFrom := strconv.Atoi(parts[1])
	to, noTo := strconv.Atoi(parts[2])
	t := api.Tok{Kind: kind, From: from, To: to}
	if !isKind || noFrom != nil || noTo != nil || !r.take(t) {
		return api.Tok{}, false
	}
	// Numbers and quoted texts can be read in more than their one form, so that the token's own line decides.
	own, e := lineOf(r.names, r.src, t)
	if e != api.OK || own != line {
		return api.Tok{}, false
	}
	return t, true
}
