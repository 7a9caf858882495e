package runes

import (
	"strconv"
	"strings"
	"unicode/utf8"

	"quoin/api"
)

// maxDigits is how many digits a rune's number has at the most.
const maxDigits = 6

// Text is a set's text.
func Text(s []api.Range) (string, api.Errno) {
	if e := Check(s); e != api.OK {
		return "", e
	}
	b := []byte{'['}
	for _, x := range s {
		b = appendRune(b, x.Lo)
		if x.Hi != x.Lo {
			b = appendRune(append(b, '-'), x.Hi)
		}
	}
	return string(append(b, ']')), api.OK
}

// appendRune writes a rune behind b, as a set's text has it.
func appendRune(b []byte, r rune) []byte {
	switch r {
	case '\n':
		return append(b, `\n`...)
	case '\t':
		return append(b, `\t`...)
	case '\r':
		return append(b, `\r`...)
	case '[', ']', '-', '^', '\\', '"':
		return append(b, '\\', byte(r))
	}
	if r > ' ' && r < 127 {
		return append(b, byte(r))
	}
	b = append(b, `\u{`...)
	return append(strconv.AppendInt(b, int64(r), 16), '}')
}

// Parse is the set of a text.
func Parse(text string) ([]api.Range, api.Fault) {
	s, end, f := readSet(text, 0)
	if f != (api.Fault{}) {
		return nil, f
	}
	if end < len(text) {
		return nil, api.Fault{Why: api.ErrMore, At: end}
	}
	if len(s) > api.MaxRanges {
		return nil, api.Fault{Why: api.ErrRanges}
	}
	return s, api.Fault{}
}

// From is the set whose text begins at a byte, and where that ends.
func From(text string, at int) ([]api.Range, int, api.Fault) {
	if at < 0 || at > len(text) {
		return nil, 0, api.Fault{Why: api.ErrArg}
	}
	s, end, f := readSet(text, at)
	if f != (api.Fault{}) {
		return nil, 0, f
	}
	if len(s) > api.MaxRanges {
		return nil, 0, api.Fault{Why: api.ErrRanges, At: at}
	}
	return s, end, api.Fault{}
}

// readSet is the one list of the runes whose text begins at a byte, however long it is, and where that text ends.
func readSet(text string, at int) (s []api.Range, end int, f api.Fault) {
	if !isByte(text, at, '[') {
		return nil, 0, noForm(at)
	}
	at++
	not := isByte(text, at, '^')
	if not {
		at++
	}
	var l []api.Range
	for !isByte(text, at, ']') {
		if isByte(text, at, ' ') {
			at++
			continue
		}
		x, next, f := readRange(text, at)
		if f != (api.Fault{}) {
			return nil, 0, f
		}
		l = append(l, x)
		at = next
	}
	s = merged(l)
	if not {
		s = rest(s)
	}
	return s, at + 1, api.Fault{}
}

// readRange is the range whose text begins at a byte, and where that ends.
func readRange(text string, at int) (x api.Range, end int, f api.Fault) {
	lo, end, f := readRune(text, at)
	if f != (api.Fault{}) {
		return api.Range{}, 0, f
	}
	hi := lo
	if isByte(text, end, '-') {
		hi, end, f = readRune(text, end+1)
		if f != (api.Fault{}) {
			return api.Range{}, 0, f
		}
	}
	if lo > hi {
		return api.Range{}, 0, api.Fault{Why: api.ErrArg, At: at}
	}
	return api.Range{Lo: lo, Hi: hi}, end, api.Fault{}
}

// readRune is the rune whose text begins at a byte, and where that ends.
func readRune(text string, at int) (r rune, end int, f api.Fault) {
	if isByte(text, at, '\\') {
		return readEscape(text, at)
	}
	r, size := utf8.DecodeRuneInString(text[at:])
	none := r == utf8.RuneError && size < 2 // U+FFFD itself has three bytes
	if none || r <= ' ' || r == 127 || strings.ContainsRune(`[]-"`, r) {
		return 0, 0, noForm(at)
	}
	return r, at + size, api.Fault{}
}

// readEscape is the rune of the escape whose backslash is the byte at, and where that ends.
func readEscape(text string, at int) (r rune, end int, f api.Fault) {
	if at+1 == len(text) {
		return 0, 0, noForm(at + 1)
	}
	switch c := text[at+1]; c {
	case 'n':
		r = '\n'
	case 't':
		r = '\t'
	case 'r':
		r = '\r'
	case '[', ']', '-', '^', '\\', '"':
		r = rune(c)
	case 'u':
		return readNumber(text, at)
	default:
		return 0, 0, noForm(at + 1)
	}
	return r, at + 2, api.Fault{}
}

// readNumber is the rune of the escape whose backslash is the byte at, with a u behind it, and where that ends.
func readNumber(text string, at int) (r rune, end int, f api.Fault) {
	first := at + len(`\u{`)
	if !isByte(text, first-1, '{') {
		return 0, 0, noForm(first - 1)
	}
	end = first
	for end < len(text) && end < first+maxDigits && digit(text[end]) >= 0 {
		r = r<<4 | digit(text[end])
		end++
	}
	if end == first || !isByte(text, end, '}') {
		return 0, 0, noForm(end)
	}
	if r > api.MaxRune {
		return 0, 0, api.Fault{Why: api.ErrRune, At: at}
	}
	return r, end + 1, api.Fault{}
}

// digit is what a hexadecimal digit counts; -1, if it is none.
func digit(c byte) rune {
	switch {
	case c >= '0' && c <= '9':
		return rune(c - '0')
	case c >= 'a' && c <= 'f':
		return rune(c-'a') + 10
	case c >= 'A' && c <= 'F':
		return rune(c-'A') + 10
	}
	return -1
}

// isByte tells whether a text has a byte b at a place.
func isByte(text string, at int, b byte) bool {
	return at < len(text) && text[at] == b
}

// noForm is the fault of a byte that can't stand there.
func noForm(at int) api.Fault {
	return api.Fault{Why: api.ErrForm, At: at}
}
