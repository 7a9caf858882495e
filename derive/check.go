package derive

import (
	"slices"

	"quoin/api"
)

// leaf is the Prod of a token.
const leaf = -1

// newNode is the tree of a production, with room for its kids.
func newNode(prod, kids int) api.Deriv {
	if kids == 0 {
		return api.Deriv{Prod: prod}
	}
	return api.Deriv{Prod: prod, Kids: make([]api.Deriv, kids)}
}

// knot is a symbol, and the tree that stands for it, below so many others.
type knot struct {
	symbol int
	tree   *api.Deriv
	depth  int
}

// walk goes over a tree from the left, each node ahead of its kids, as long as look likes what stands for each symbol. It tells whether the tree is one of the grammar's productions by its shape, and look liked all of it. (Trees that calls make have at most MaxChart parts; a deeper one may stand in itself.)
func walk(g api.Plain, symbol int, d api.Deriv, look func(symbol int, d *api.Deriv) bool) bool {
	todo := []knot{{symbol, &d, 1}}
	for len(todo) > 0 {
		k := todo[len(todo)-1]
		todo = todo[:len(todo)-1]
		if k.depth > api.MaxChart || !fits(g, k.symbol, k.tree) || !look(k.symbol, k.tree) {
			return false
		}
		if isLeaf(k.tree) {
			continue
		}
		for i, symbol := range slices.Backward(g.Prods[k.tree.Prod].Right) {
			todo = append(todo, knot{symbol, &k.tree.Kids[i], k.depth + 1})
		}
	}
	return true
}

// isLeaf tells whether a tree is a token. Its kids count: what has some is no leaf, whatever they are, and so no tree at all.
func isLeaf(d *api.Deriv) bool { return d.Prod == leaf && len(d.Kids) == 0 }

// fits tells whether a tree may stand for a symbol, what stands for its kids aside.
func fits(g api.Plain, symbol int, d *api.Deriv) bool {
	if symbol < len(g.Kinds) {
		return isLeaf(d)
	}
	return isProd(g, d.Prod) && g.Prods[d.Prod].Left == symbol-len(g.Kinds) && len(d.Kids) == len(g.Prods[d.Prod].Right)
}

func isProd(g api.Plain, n int) bool { return 0 <= n && n < len(g.Prods) }

// derivesRow tells whether a tree is a derivation of a row by the start.
func derivesRow(g api.Plain, d api.Deriv, row []int) bool {
	tok := 0
	is := walk(g, len(g.Kinds)+g.Start, d, func(symbol int, d *api.Deriv) bool {
		if !isLeaf(d) {
			return d.Tok == 0
		}
		tok++
		return d.Tok == tok-1 && tok <= len(row) && row[tok-1] == symbol
	})
	return is && tok == len(row)
}

// yield are the kinds of a tree's leaves; nothing, if it is none of the grammar's.
func yield(g api.Plain, d api.Deriv) []int {
	if !isProd(g, d.Prod) {
		return nil
	}
	var row []int
	is := walk(g, len(g.Kinds)+g.Prods[d.Prod].Left, d, func(symbol int, d *api.Deriv) bool {
		if isLeaf(d) {
			row = append(row, symbol)
		}
		return true
	})
	if !is {
		return nil
	}
	return row
}
