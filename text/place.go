package text

import "quoin/api"

// firstPlace is where every text begins.
func firstPlace() api.Place { return api.Place{Line: 1, Column: 1} }

// behind is the place behind a piece that stands at p; r is what a range tells of the piece.
func behind(p api.Place, r rune) api.Place {
	if r == '\n' {
		return api.Place{Line: p.Line + 1, Column: 1}
	}
	return api.Place{Line: p.Line, Column: p.Column + 1}
}

// At is a byte's place; of a text's length, that of one behind the last byte.
func At(s string, at int) (api.Place, api.Errno) {
	if at < 0 || at > len(s) {
		return api.Place{}, api.ErrPlace
	}
	p := firstPlace()
	// The whole text is gone over, not s[:at]: a rune that at parts would be bytes that are none's there.
	for i, r := range s {
		if i >= at {
			break
		}
		p = behind(p, r)
	}
	return p, api.OK
}

// Byte is the byte, at which a piece begins or the text ends, that has a place.
func Byte(s string, p api.Place) (int, api.Errno) {
	here := firstPlace()
	for i, r := range s {
		if here == p {
			return i, api.OK
		}
		here = behind(here, r)
	}
	if here == p {
		return len(s), api.OK
	}
	return 0, api.ErrPlace
}
