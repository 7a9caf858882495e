package spec

import (
	"strings"

	"quoin/api"
	"quoin/text"
)

const (
	blanks   = " \t\n\r"
	remark   = "//"
	makes    = "=>"       // ahead of an action
	oneSigns = ";,()=|:$" // the signs of one byte, but the one that is read as a word is
)

// The sorts of tokens.
const (
	endToken    = iota // nothing more comes
	fixedToken         // a key or a sign: its text says which
	wordToken          // a word that is no key
	numberToken        // its text is the digits
	quotedToken        // its text is the value
)

// token is a token, from the byte at up to the byte end.
type token struct {
	sort    int
	text    string
	at, end int
}

// behindGaps is the first byte from a byte on that is neither a blank nor a remark's.
func behindGaps(s string, at int) int {
	for at < len(s) {
		switch {
		case strings.IndexByte(blanks, s[at]) >= 0:
			at++
		case strings.HasPrefix(s[at:], remark):
			at = lineEnd(s, at)
		default:
			return at
		}
	}
	return at
}

// lineEnd is the next byte 10, or the end.
func lineEnd(s string, at int) int {
	n := strings.IndexByte(s[at:], '\n')
	if n < 0 {
		return len(s)
	}
	return at + n
}

// tokenAt is the token that begins at a byte at which there is no gap.
func tokenAt(s string, at int) (token, api.Errno) {
	switch {
	case at == len(s):
		return token{sort: endToken, at: at, end: at}, api.OK
	case s[at] == '"':
		return quotedAt(s, at)
	case isDigit(s[at]):
		return cut(s, numberToken, at, numberEnd(s, at)), api.OK
	case isLetter(s[at]):
		return wordAt(s, at)
	case strings.HasPrefix(s[at:], makes):
		return cut(s, fixedToken, at, at+len(makes)), api.OK
	case strings.IndexByte(oneSigns, s[at]) >= 0:
		return cut(s, fixedToken, at, at+1), api.OK
	}
	return token{}, api.ErrForm
}

// cut is a token whose text is its bytes.
func cut(s string, sort, at, end int) token {
	return token{sort: sort, text: s[at:end], at: at, end: end}
}

// quotedAt is the quoted text that begins at a byte.
func quotedAt(s string, at int) (token, api.Errno) {
	value, end, f := text.Quoted(s, at)
	if f != (api.Fault{}) {
		return token{}, f.Why
	}
	return token{sort: quotedToken, text: value, at: at, end: end}, api.OK
}

// wordAt is the word that begins at a byte; a key, and the sign that looks like a word, stand for themselves.
func wordAt(s string, at int) (token, api.Errno) {
	t := cut(s, wordToken, at, wordEnd(s, at))
	if len(t.text) > api.MaxWord {
		return token{}, api.ErrWord
	}
	if !Word(t.text) {
		t.sort = fixedToken
	}
	return t, api.OK
}
