package whole

import (
	"iter"
	"math/bits"
)

// digits is the absolute value of an integer. Most numbers fit into one word
// and need no list: small is the number then, and list is nil. Greater ones
// have a list of at least two words, which is never changed, and small is 0.
type digits struct {
	small uint64
	list  *[]uint64
}

// digitsOf returns the number with these words. It keeps them.
func digitsOf(w []uint64) digits {
	switch len(w) {
	case 0:
		return digits{}
	case 1:
		return digits{small: w[0]}
	}
	// The address of w itself would cost the small numbers memory, too.
	list := w
	return digits{list: &list}
}

// words returns the number as a list of words, which must not be changed.
func (a digits) words() []uint64 {
	if a.list != nil {
		return *a.list
	}
	if a.small == 0 {
		return nil
	}
	return []uint64{a.small}
}

func (a digits) isSmall() bool { return a.list == nil }

func (a digits) isZero() bool { return a.isSmall() && a.small == 0 }

func (a digits) isOne() bool { return a.isSmall() && a.small == 1 }

func (a digits) compare(b digits) int {
	if a.isSmall() && b.isSmall() {
		if a.small == b.small {
			return 0
		}
		return signOf(a.small > b.small)
	}
	return compareWords(a.words(), b.words())
}

func (a digits) plus(b digits) digits {
	if a.isSmall() && b.isSmall() {
		if sum, carry := bits.Add64(a.small, b.small, 0); carry == 0 {
			return digits{small: sum}
		}
	}
	return digitsOf(addWords(a.words(), b.words()))
}

// minus returns a - b; b is at most a.
func (a digits) minus(b digits) digits {
	if a.isSmall() && b.isSmall() {
		return digits{small: a.small - b.small}
	}
	return digitsOf(subtractWords(a.words(), b.words()))
}

func (a digits) times(b digits) digits {
	if a.isSmall() && b.isSmall() {
		if high, low := bits.Mul64(a.small, b.small); high == 0 {
			return digits{small: low}
		}
	}
	return digitsOf(multiplyWords(a.words(), b.words()))
}

// over returns the quotient and the rest of a by d, which is not 0.
func (a digits) over(d digits) (quotient, rest digits) {
	if a.isSmall() && d.isSmall() {
		return digits{small: a.small / d.small}, digits{small: a.small % d.small}
	}
	if d.isSmall() {
		q, r := divideByWord(a.words(), d.small)
		return digitsOf(q), digits{small: r}
	}
	q, r := divideWords(a.words(), d.words())
	return digitsOf(q), digitsOf(r)
}

// share returns a over d, which divides it.
func (a digits) share(d digits) digits {
	if d.isOne() {
		return a
	}
	q, _ := a.over(d)
	return q
}

// common returns the greatest common divisor; 0 of 0 and 0.
func (a digits) common(b digits) digits {
	if a.isSmall() && b.isSmall() {
		return digits{small: commonWord(a.small, b.small)}
	}
	return digitsOf(commonDivisor(a.words(), b.words()))
}

// The greatest power of ten that fits into a word, and its zeros.
const (
	tenPower = 10_000_000_000_000_000_000
	tenZeros = 19
)

// decimals yields the decimal digits from the highest one down: those of 0 are
// a single 0.
func (a digits) decimals() iter.Seq[byte] {
	return func(yield func(byte) bool) {
		groups := a.groups()
		last := len(groups) - 1
		unit := uint64(1)
		for groups[last]/unit >= 10 {
			unit *= 10
		}
		for i := last; i >= 0; i-- {
			for ; unit > 0; unit /= 10 {
				if !yield(byte(groups[i] / unit % 10)) {
					return
				}
			}
			unit = tenPower / 10
		}
	}
}

// groups returns the digits to the base tenPower, the lowest one first, at
// least one.
func (a digits) groups() []uint64 {
	var groups []uint64
	w := a.words()
	for len(w) > 1 {
		var rest uint64
		w, rest = divideByWord(w, tenPower)
		groups = append(groups, rest)
	}
	if len(w) == 0 {
		return append(groups, 0)
	}
	if w[0] < tenPower {
		return append(groups, w[0])
	}
	return append(groups, w[0]%tenPower, w[0]/tenPower)
}

// readDigits returns the number of a text of decimal digits, and no others.
func readDigits(s string) digits {
	var w []uint64
	for len(s) > 0 {
		n := (len(s)-1)%tenZeros + 1
		group, unit := uint64(0), uint64(1)
		for _, c := range []byte(s[:n]) {
			group = group*10 + uint64(c-'0')
			unit *= 10
		}
		w = extend(w, unit, group)
		s = s[n:]
	}
	return digitsOf(w)
}
