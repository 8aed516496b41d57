package whole

import "math/bits"

// commonDivisor returns the greatest common divisor of a and b. It runs
// Euclid's steps, many of them at once where it can: see steps.
func commonDivisor(a, b []uint64) []uint64 {
	if compareWords(a, b) < 0 {
		a, b = b, a
	}
	for len(b) > 1 {
		s := foresee(a, b)
		if s.untaken() {
			_, rest := divideWords(a, b)
			a, b = b, rest
			continue
		}
		padded := make([]uint64, len(a))
		copy(padded, b)
		a, b = combine(a, padded, s.a, s.b), combine(a, padded, s.c, s.d)
	}
	if len(b) == 0 {
		return a
	}
	_, rest := divideByWord(a, b[0])
	return []uint64{commonWord(b[0], rest)}
}

func commonWord(a, b uint64) uint64 {
	for b != 0 {
		a, b = b, a%b
	}
	return a
}

// steps is some of Euclid's steps, taken together: from the numbers x and y
// they lead to a x + b y and c x + d y.
type steps struct{ a, b, c, d int64 }

// untaken reports whether not even one step is certain.
func (s steps) untaken() bool { return s.b == 0 }

// foresee returns the first of Euclid's steps for a and b (a is at least b,
// and has two words or more) that are certain from their highest 62 bits
// alone. A step is certain if the least and the greatest quotient that the
// bits left out allow are the same. As x and y are below 2^62, nothing
// overflows.
func foresee(a, b []uint64) steps {
	s := steps{a: 1, d: 1}
	shift := bits.LeadingZeros64(a[len(a)-1])
	x, y := highest(a, len(a), shift), highest(b, len(a), shift)
	for y+s.c != 0 && y+s.d != 0 {
		q := (x + s.a) / (y + s.c)
		if q != (x+s.b)/(y+s.d) {
			break
		}
		s = steps{s.c, s.d, s.a - q*s.c, s.b - q*s.d}
		x, y = y, x-q*y
	}
	return s
}

// highest returns the highest 62 bits that w has behind so many zero bits, if
// it is written with n words.
func highest(w []uint64, n, shift int) int64 {
	var high, low uint64
	if n <= len(w) {
		high = w[n-1]
	}
	if n-1 <= len(w) {
		low = w[n-2]
	}
	return int64((high<<shift | low>>(64-shift)) >> 2)
}

// combine returns j a + k b, which is not negative. One of j and k is at least
// 0, the other one at most 0; a and b are equally long, and zeros at their
// ends do no harm.
func combine(a, b []uint64, j, k int64) []uint64 {
	if k > 0 {
		a, b, j, k = b, a, k, j
	}
	sum := make([]uint64, len(a))
	addMultiple(sum, a, uint64(j))
	takeMultiple(sum, b, uint64(-k))
	return trim(sum)
}
