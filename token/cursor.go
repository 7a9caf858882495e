package token

import "quoin/api"

// row is tokens, and how many of them were gone over. The tokens never change, so that cursors may share them.
type row struct {
	toks []api.Tok
	gone int
}

// newRow is a row of which nothing was gone over; its tokens are not nil, even if there are none.
func newRow(l []api.Tok) row {
	return row{toks: append([]api.Tok{}, l...)}
}

// left is how many tokens are ahead.
func (r *row) left() int {
	return len(r.toks) - r.gone
}

// first is the first token that is ahead, or the end.
func (r *row) first() api.Tok {
	if r.left() > 0 {
		return r.toks[r.gone]
	}
	return r.end()
}

// end is the token behind the last one.
func (r *row) end() api.Tok {
	to := 0
	if n := len(r.toks); n > 0 {
		to = r.toks[n-1].To
	}
	return api.Tok{Kind: api.KindEnd, From: to, To: to}
}

// Cursor goes over a row.
type Cursor struct{ row }

// NewCursor is a cursor at the first token.
func NewCursor(l ...api.Tok) *Cursor {
	return &Cursor{newRow(l)}
}

// isMade tells whether a call made it.
func (c *Cursor) isMade() bool {
	return c != nil && c.toks != nil
}

// Peek is the token at which it stands.
func (c *Cursor) Peek() api.Tok {
	if !c.isMade() {
		return api.Tok{}
	}
	return c.first()
}

// Next is that token, and it goes on.
func (c *Cursor) Next() api.Tok {
	t := c.Peek()
	if c.Left() > 0 {
		c.gone++
	}
	return t
}

// Back goes back by some tokens.
func (c *Cursor) Back(n int) bool {
	if !c.isMade() || n < 0 || n > c.gone {
		return false
	}
	c.gone -= n
	return true
}

// At is how many tokens are behind it.
func (c *Cursor) At() int {
	if !c.isMade() {
		return 0
	}
	return c.gone
}

// Left is how many are ahead. It stands here, over the row's own, as a nil cursor has no row that could promote it.
func (c *Cursor) Left() int {
	if !c.isMade() {
		return 0
	}
	return c.left()
}

// Mark is another cursor at the same place.
func (c *Cursor) Mark() *Cursor {
	if !c.isMade() {
		return nil
	}
	other := *c
	return &other
}
