package text

import (
	"strings"
	"unicode/utf8"

	"quoin/api"
)

// digits are the digits that quoted texts write and read.
const digits = "0123456789abcdef"

// maxDigits is how many digits a rune's number has at the most.
const maxDigits = 6

// Quote is a value as a quoted text, in the one form.
func Quote(v string) (string, api.Errno) {
	if len(v) > api.MaxQuote {
		return "", api.ErrLong
	}
	q := []byte{'"'}
	for at, r := range v {
		q = append(q, quotePart(v, at, r)...)
	}
	return string(append(q, '"')), api.OK
}

// quotePart is how the one form writes the piece of v at a byte, of which a range told r.
func quotePart(v string, at int, r rune) string {
	switch r {
	case '\n':
		return `\n`
	case '\t':
		return `\t`
	case '\r':
		return `\r`
	case '"':
		return `\"`
	case '\\':
		return `\\`
	}
	if plain(v, at, r) {
		return string(r)
	}
	b := v[at]
	return string([]byte{'\\', 'x', digits[b>>4], digits[b&15]})
}

// plain tells whether the piece of s at a byte, of which a range told r, is a rune that stands for itself unless it is a quote or a backslash.
func plain(s string, at int, r rune) bool {
	return r >= ' ' && r != 127 && !isNone(s, at, r)
}

// Unquote is a quoted text's value.
func Unquote(s string) (string, api.Errno) {
	v, size := readQuoted(s)
	if size == 0 || size < len(s) {
		return "", api.ErrQuote
	}
	return v, api.OK
}

// Quoted is the value of the quoted text that begins at a byte, and the byte behind it.
func Quoted(s string, at int) (string, int, api.Fault) {
	if at < 0 || at >= len(s) {
		return "", 0, api.Fault{Why: api.ErrPlace, At: at}
	}
	v, size := readQuoted(s[at:])
	if size == 0 {
		return "", 0, api.Fault{Why: api.ErrQuote, At: at}
	}
	return v, at + size, api.Fault{}
}

// readQuoted is the value of the quoted text with which s begins, and how many bytes that text has; 0, if there is none.
func readQuoted(s string) (value string, size int) {
	if !strings.HasPrefix(s, `"`) {
		return "", 0
	}
	var v []byte
	next := 1
	for at, r := range s {
		if at < next { // it belongs to the part ahead
			continue
		}
		if r == '"' {
			return string(v), at + 1
		}
		part, n := readPart(s, at, r)
		if n == 0 || len(v)+len(part) > api.MaxQuote {
			return "", 0
		}
		v = append(v, part...)
		next = at + n
	}
	return "", 0
}

// readPart is what the part of s at a byte, of which a range told r, stands for, and how many bytes it has; 0, if there is none.
func readPart(s string, at int, r rune) (value string, size int) {
	if r == '\\' {
		return readEscape(s[at:])
	}
	if !plain(s, at, r) {
		return "", 0
	}
	return string(r), utf8.RuneLen(r)
}

// readEscape is what the escape with which s begins stands for, and how many bytes it has; 0, if there is none.
func readEscape(s string) (value string, size int) {
	if len(s) < 2 {
		return "", 0
	}
	switch s[1] {
	case 'n':
		return "\n", 2
	case 't':
		return "\t", 2
	case 'r':
		return "\r", 2
	case '"', '\\':
		return string([]byte{s[1]}), 2
	case 'x':
		return readByte(s)
	case 'u':
		return readRune(s)
	}
	return "", 0
}

// readByte is the byte that s, whose first two bytes are a backslash and x, begins with, and how many bytes that takes; 0, if there is none.
func readByte(s string) (value string, size int) {
	if len(s) < 4 {
		return "", 0
	}
	high, low := strings.IndexByte(digits, s[2]), strings.IndexByte(digits, s[3])
	if high < 0 || low < 0 {
		return "", 0
	}
	return string([]byte{byte(high<<4 | low)}), 4
}

// readRune is the bytes of the rune that s, whose first two bytes are a backslash and u, begins with, and how many bytes that takes; 0, if there is none.
func readRune(s string) (value string, size int) {
	if len(s) < 3 || s[2] != '{' {
		return "", 0
	}
	n, end := rune(0), 3
	for end < len(s) && end < 3+maxDigits {
		d := strings.IndexByte(digits, s[end])
		if d < 0 {
			break
		}
		n = n<<4 | rune(d)
		end++
	}
	oneForm := end == 4 || end > 4 && s[3] != '0'
	if !oneForm || end >= len(s) || s[end] != '}' {
		return "", 0
	}
	v, e := Encode(n)
	if e != api.OK {
		return "", 0
	}
	return v, end + 1
}
