package whole

import "math/bits"

// The functions of this file work with numbers that are not negative, as
// lists of words: the digits to the base 2^64, the lowest one first, without
// zeros at the end. None of them writes into an argument, if it does not say
// so.

// trim cuts off the zeros at the end.
func trim(w []uint64) []uint64 {
	for len(w) > 0 && w[len(w)-1] == 0 {
		w = w[:len(w)-1]
	}
	return w
}

func compareWords(a, b []uint64) int {
	if len(a) != len(b) {
		return signOf(len(a) > len(b))
	}
	for i := len(a) - 1; i >= 0; i-- {
		if a[i] != b[i] {
			return signOf(a[i] > b[i])
		}
	}
	return 0
}

func signOf(above bool) int {
	if above {
		return 1
	}
	return -1
}

func addWords(a, b []uint64) []uint64 {
	if len(a) < len(b) {
		a, b = b, a
	}
	sum := make([]uint64, len(a)+1)
	var carry uint64
	for i, x := range a {
		var y uint64
		if i < len(b) {
			y = b[i]
		}
		sum[i], carry = bits.Add64(x, y, carry)
	}
	sum[len(a)] = carry
	return trim(sum)
}

// subtractWords returns a - b; b is at most a.
func subtractWords(a, b []uint64) []uint64 {
	rest := make([]uint64, len(a))
	var borrow uint64
	for i, x := range a {
		var y uint64
		if i < len(b) {
			y = b[i]
		}
		rest[i], borrow = bits.Sub64(x, y, borrow)
	}
	return trim(rest)
}

func multiplyWords(a, b []uint64) []uint64 {
	product := make([]uint64, len(a)+len(b))
	for i, x := range a {
		product[i+len(b)] = addMultiple(product[i:i+len(b)], b, x)
	}
	return trim(product)
}

// addMultiple adds m times w to the part, which is written and as long as w,
// and returns what is to be carried on.
func addMultiple(part, w []uint64, m uint64) uint64 {
	var carry uint64
	for i, x := range w {
		high, low := timesPlus(x, m, carry)
		var c uint64
		part[i], c = bits.Add64(part[i], low, 0)
		carry = high + c
	}
	return carry
}

// takeMultiple subtracts m times w from the part, which is written and as
// long as w, and returns what is to be borrowed.
func takeMultiple(part, w []uint64, m uint64) uint64 {
	var carry uint64
	for i, x := range w {
		high, low := timesPlus(x, m, carry)
		var c uint64
		part[i], c = bits.Sub64(part[i], low, 0)
		carry = high + c
	}
	return carry
}

// timesPlus returns x m + c, which always fits into two words.
func timesPlus(x, m, c uint64) (high, low uint64) {
	high, low = bits.Mul64(x, m)
	low, carry := bits.Add64(low, c, 0)
	return high + carry, low
}

// extend returns m times w and c.
func extend(w []uint64, m, c uint64) []uint64 {
	longer := make([]uint64, len(w)+1)
	for i, x := range w {
		c, longer[i] = timesPlus(x, m, c)
	}
	longer[len(w)] = c
	return trim(longer)
}

// divideByWord returns the quotient and the rest of a by d, which is not 0.
func divideByWord(a []uint64, d uint64) (quotient []uint64, rest uint64) {
	quotient = make([]uint64, len(a))
	for i := len(a) - 1; i >= 0; i-- {
		quotient[i], rest = bits.Div64(rest, a[i], d)
	}
	return trim(quotient), rest
}

// divideWords returns the quotient and the rest of a by d, which has at least
// two words. It divides as by hand: each word of the quotient is guessed from
// the highest words, which are shifted until the highest bit of d is set, as
// the guess is then at most one too great.
func divideWords(a, d []uint64) (quotient, rest []uint64) {
	if len(a) < len(d) {
		return nil, a
	}
	n := len(d)
	shift := bits.LeadingZeros64(d[n-1])
	d = shiftedUp(d, shift)[:n]
	rest = shiftedUp(a, shift)
	quotient = make([]uint64, len(a)-n+1)
	for i := len(quotient) - 1; i >= 0; i-- {
		guess := guessWord(rest[i+n], rest[i+n-1], rest[i+n-2], d[n-1], d[n-2])
		if takeMultiple(rest[i:i+n], d, guess) > rest[i+n] {
			guess--
			addMultiple(rest[i:i+n], d, 1)
		}
		quotient[i] = guess
	}
	return trim(quotient), shiftedDown(rest[:n], shift)
}

// guessWord returns a word of a quotient, or one more, from the three highest
// words of what is divided and the two highest ones of the divisor.
func guessWord(top, middle, low, divisor, second uint64) uint64 {
	if top >= divisor {
		return 1<<64 - 1
	}
	guess, rest := bits.Div64(top, middle, divisor)
	for {
		high, next := bits.Mul64(guess, second)
		if high < rest || high == rest && next <= low {
			return guess
		}
		guess--
		var carry uint64
		rest, carry = bits.Add64(rest, divisor, 0)
		if carry != 0 {
			return guess
		}
	}
}

// shiftedUp returns w times 2^shift, in one word more than w has; shift is
// below 64.
func shiftedUp(w []uint64, shift int) []uint64 {
	shifted := make([]uint64, len(w)+1)
	for i, x := range w {
		shifted[i] |= x << shift
		shifted[i+1] = x >> (64 - shift)
	}
	return shifted
}

// shiftedDown returns w over 2^shift; shift is below 64.
func shiftedDown(w []uint64, shift int) []uint64 {
	shifted := make([]uint64, len(w))
	for i, x := range w {
		shifted[i] = x >> shift
		if i > 0 {
			shifted[i-1] |= x << (64 - shift)
		}
	}
	return trim(shifted)
}
