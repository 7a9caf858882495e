package lexer

// stride is about how many bytes lie between two stops: with fewer more of them are kept, with more each match may take as many steps in vain.
const stride = 128

// stop is where one stood while going on: at a byte, in a mode and a state of it.
type stop struct{ at, mode, state int }

// stops are those that were met ahead. One goes on with a rule up to the text's end, perhaps, to fall back to a short match; if that were done behind each of these anew, it would take the square of the text's length.
type stops map[stop]struct{}

// again tells whether a stop was met ahead. Then nothing more is taken behind it: if something had been, the place would be behind it by now.
func (s stops) again(x stop) bool {
	_, met := s[x]
	s[x] = struct{}{}
	return met
}

// atStop tells whether a stop lies at the end of the piece that was gone through last, which has so many bytes.
func (r *run) atStop(size int) bool {
	at := r.place + r.size
	return at/stride != (at-size)/stride
}
