// Package short is what layers have in common where they write numbers as bytes: seven bits a byte, the lowest first, 128 more on every byte but the last, no nought at the end but of the number 0.
package short

// Max is the greatest number that is written.
const Max = 1<<31 - 1

// Append writes a number, from 0 to Max, behind b.
func Append(b []byte, n int) []byte {
	for n >= 128 {
		b = append(b, byte(n%128+128))
		n /= 128
	}
	return append(b, byte(n))
}

// Reader reads numbers, till something is wrong; then all of them are 0.
type Reader struct {
	left    []byte
	isWrong bool
}

func NewReader(b []byte) *Reader { return &Reader{left: b} }

// Number is the next number.
func (r *Reader) Number() int {
	n := uint64(0)
	for i, x := range r.left {
		n |= uint64(x%128) << (7 * i)
		if i == 5 || n > Max || x == 0 && i > 0 {
			break
		}
		if x < 128 {
			r.left = r.left[i+1:]
			return int(n)
		}
	}
	r.fail()
	return 0
}

func (r *Reader) fail() { r.left, r.isWrong = nil, true }

// Fit tells whether so many things, of at least so many bytes each (1 or more), may still follow; something is wrong, if not: so no more are made room for than there are bytes.
func (r *Reader) Fit(count, size int) bool {
	if count > len(r.left)/size {
		r.fail()
		return false
	}
	return true
}

// IsDone tells whether all was read, and nothing was wrong.
func (r *Reader) IsDone() bool { return !r.isWrong && len(r.left) == 0 }
