package regex

import (
	"strings"

	"quoin/api"
	"quoin/runes"
)

// Text is an expression's text.
func Text(r api.Regex) (string, api.Errno) {
	if !Right(r) {
		return "", api.ErrRegex
	}
	var b strings.Builder
	write(&b, r)
	if b.Len() > api.MaxSource {
		return "", api.ErrSize
	}
	return b.String(), api.OK
}

// write writes a right expression.
func write(b *strings.Builder, r api.Regex) {
	switch r.Kind {
	case api.ReNone:
		b.WriteString(`[]`)
	case api.ReEmpty:
		b.WriteString(`""`)
	case api.ReSet:
		s, _ := runes.Text(r.Set)
		b.WriteString(s)
	case api.ReCat:
		writeKids(b, r, " ")
	case api.ReAlt:
		writeKids(b, r, " | ")
	case api.ReAnd:
		writeKids(b, r, " & ")
	case api.ReNot:
		b.WriteByte('!')
		writeKids(b, r, "")
	case api.ReStar:
		writeKids(b, r, "")
		b.WriteByte('*')
	}
}

// writeKids writes the kids of r, with something between each two.
func writeKids(b *strings.Builder, r api.Regex, between string) {
	for i, kid := range r.Kids {
		if i > 0 {
			b.WriteString(between)
		}
		if !bracketed(kid.Kind, r.Kind) {
			write(b, kid)
			continue
		}
		b.WriteByte('(')
		write(b, kid)
		b.WriteByte(')')
	}
}

// bracketed tells whether a kid of a kind stands in ( ), if it is in an expression of another.
func bracketed(kid, in int) bool {
	switch kid {
	case api.ReAlt:
		return true
	case api.ReAnd:
		return in == api.ReCat || in == api.ReNot || in == api.ReStar
	case api.ReCat:
		return in == api.ReNot || in == api.ReStar
	case api.ReNot:
		return in == api.ReStar
	}
	return false
}
