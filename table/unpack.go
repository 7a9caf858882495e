package table

import "quoin/api"

// entry is what stands at a state's base for a column, which is not below 0; false, if nothing does. The lists may be anything.
func entry[V any](bases, whose []int, cells []V, state, column int) (V, bool) {
	var none V
	if state >= len(bases) {
		return none, false
	}
	place := bases[state] + column // a sum that wraps is below 0: it is no place, as the sum itself would be none
	if !isOf(min(len(whose), len(cells)), place) || whose[place] != state {
		return none, false
	}
	return cells[place], true
}

// canUnpack tells whether a packed table says a table that is not too large.
func canUnpack(p api.Packed) bool {
	states := len(p.Default)
	return 0 < states && states <= api.MaxStates &&
		2 <= p.Kinds && p.Kinds <= api.MaxKinds &&
		0 <= p.Rules && p.Rules <= api.MaxRules &&
		len(p.Base) == states && len(p.GotoBase) == states
}
