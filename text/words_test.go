package text_test

import (
	"strings"

	"quoin/api"
)

// The chapter's section Words, by its letter and without the library's UTF-8: what the tests hold the package against.

func isRune(n int) bool { return n >= 0 && n <= 0x10FFFF && (n < 0xD800 || n > 0xDFFF) }

func bytesOf(n int) string {
	six := func(shift int) byte { return byte(0x80 + n>>shift%64) }
	switch {
	case n <= 0x7F:
		return string([]byte{byte(n)})
	case n <= 0x7FF:
		return string([]byte{byte(0xC0 + n>>6), six(0)})
	case n <= 0xFFFF:
		return string([]byte{byte(0xE0 + n>>12), six(6), six(0)})
	}
	return string([]byte{byte(0xF0 + n>>18), six(12), six(6), six(0)})
}

// everyRune has the rune of each row of bytes that is a rune's.
var everyRune = func() map[string]rune {
	m := map[string]rune{}
	for n := range 0x110000 {
		if isRune(n) {
			m[bytesOf(n)] = rune(n)
		}
	}
	return m
}()

type piece struct {
	at, size int
	r        rune
	ok       bool
}

func pieceAt(s string, at int) piece {
	for size := 1; size <= 4 && at+size <= len(s); size++ {
		if r, ok := everyRune[s[at:at+size]]; ok {
			return piece{at, size, r, true}
		}
	}
	return piece{at, 1, 0, false}
}

func pieces(s string) []piece {
	var l []piece
	for at := 0; at < len(s); at += l[len(l)-1].size {
		l = append(l, pieceAt(s, at))
	}
	return l
}

func placeOf(s string, at int) api.Place {
	ahead := s[:at]
	last := strings.LastIndexByte(ahead, 10) // -1 of the first line: the beginning
	column := 1
	for _, p := range pieces(s) {
		if p.at > last && p.at < at {
			column++
		}
	}
	return api.Place{Line: 1 + strings.Count(ahead, "\n"), Column: column}
}

// texts are all rows of at most three of these bits, which meet the edges of each other.
func texts() []string {
	bits := []string{
		"a", "\n", "\"", "\\", " ", "x", "u{", "}", "0", "f",
		"\x00", "\x1f", "\x7f", "\x80", "\xbf", "\xc0\x80", "\xc1", "\xc2", "\xe2\x82", "\xed\xa0\x80", "\xef\xbf", "\xf0\x9f\x98", "\xf4\x90\x80\x80", "\xf5", "\xff",
		"\u0080", "\u00e9", "\u07ff", "\u0800", "\ud7ff", "\ue000", "\ufffd", "\uffff", "\U00010000", "\U0010ffff",
	}
	l := []string{""}
	for _, a := range bits {
		l = append(l, a)
		for _, b := range bits {
			l = append(l, a+b)
			for _, c := range bits {
				l = append(l, a+b+c)
			}
		}
	}
	return l
}
