// Package text is layer 1: texts as runes: see shared/doc/01-text.md.
package text

import (
	"strings"
	"unicode/utf8"

	"quoin/api"
)

// standIn is what a range over a text tells in the place of a byte that is none's; it is a rune of its own, too.
const standIn = "\ufffd"

// isNone tells whether a range over s, which told r at a byte, stands in for one that is none's.
func isNone(s string, at int, r rune) bool {
	return r == utf8.RuneError && !strings.HasPrefix(s[at:], standIn)
}

// Next is the piece that begins at a byte: its rune, how many bytes it has, and whether it is one.
func Next(s string, at int) (r rune, size int, ok bool) {
	if at < 0 || at >= len(s) {
		return 0, 0, false
	}
	for _, first := range s[at:] {
		r = first
		break
	}
	if isNone(s, at, r) {
		return 0, 1, false
	}
	return r, utf8.RuneLen(r), true
}

// Runes are a text's runes; or the first byte that is none's.
func Runes(s string) ([]rune, api.Fault) {
	if f := Valid(s); f != (api.Fault{}) {
		return nil, f
	}
	l := make([]rune, 0, utf8.RuneCountInString(s))
	for _, r := range s {
		l = append(l, r)
	}
	return l, api.Fault{}
}

// Encode is a rune's bytes.
func Encode(r rune) (string, api.Errno) {
	if !utf8.ValidRune(r) {
		return "", api.ErrRune
	}
	return string(r), api.OK
}

// Join is the bytes of runes, one behind the other; or the number of the first that is none.
func Join(l ...rune) (string, api.Fault) {
	var b []byte
	for i, r := range l {
		if !utf8.ValidRune(r) {
			return "", api.Fault{Why: api.ErrRune, At: i}
		}
		b = utf8.AppendRune(b, r)
	}
	return string(b), api.Fault{}
}

// Valid tells the first byte that is none's.
func Valid(s string) api.Fault {
	for at, r := range s {
		if isNone(s, at, r) {
			return api.Fault{Why: api.ErrUtf8, At: at}
		}
	}
	return api.Fault{}
}
