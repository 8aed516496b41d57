// Package whole has integers of any size, ratios of them, and pairs of ratios.
// It is layer 1 of the program; none of its numbers is ever changed.
package whole

import (
	"math"

	"copestone/api"
)

// Z is an integer of any size. The zero Z is 0.
type Z struct {
	negative bool
	digits
}

// signed returns the integer with these digits; 0 has no minus sign.
func signed(d digits, negative bool) Z {
	return Z{negative && !d.isZero(), d}
}

// Int returns n.
func Int(n int64) Z {
	if n < 0 {
		// The least int64 has no opposite, but its bits are right as a uint64.
		return Z{true, digits{small: uint64(-n)}}
	}
	return Z{false, digits{small: uint64(n)}}
}

// ParseZ returns the integer of a text.
func ParseZ(s string) (Z, api.Errno) {
	if len(s) > api.MaxDigits {
		return Z{}, api.ErrLimit
	}
	return readZ(s)
}

func readZ(s string) (Z, api.Errno) {
	negative := len(s) > 0 && s[0] == '-'
	if negative {
		s = s[1:]
	}
	if !isNatural(s) {
		return Z{}, api.ErrForm
	}
	return signed(readDigits(s), negative), api.OK
}

// isNatural reports whether a text is decimal digits, of which the first one
// is 0 only if it is the only one.
func isNatural(s string) bool {
	for _, c := range []byte(s) {
		if c < '0' || c > '9' {
			return false
		}
	}
	return s == "0" || s != "" && s[0] != '0'
}

// Text returns the text of a.
func (a Z) Text() string {
	var text []byte
	if a.negative {
		text = append(text, '-')
	}
	for d := range a.decimals() {
		text = append(text, '0'+d)
	}
	return string(text)
}

// Int64 returns a as an int64; 0 and false, if it is none.
func (a Z) Int64() (int64, bool) {
	most := uint64(math.MaxInt64)
	if a.negative {
		most++
	}
	if !a.isSmall() || a.small > most {
		return 0, false
	}
	if a.negative {
		return -int64(a.small), true
	}
	return int64(a.small), true
}

// Add returns a + b.
func (a Z) Add(b Z) Z {
	if a.negative == b.negative {
		return signed(a.plus(b.digits), a.negative)
	}
	if a.compare(b.digits) >= 0 {
		return signed(a.minus(b.digits), a.negative)
	}
	return signed(b.minus(a.digits), b.negative)
}

// Sub returns a - b.
func (a Z) Sub(b Z) Z { return a.Add(b.Neg()) }

// Mul returns a b.
func (a Z) Mul(b Z) Z {
	return signed(a.times(b.digits), a.negative != b.negative)
}

// Neg returns -a.
func (a Z) Neg() Z { return signed(a.digits, !a.negative) }

// Abs returns the absolute value of a.
func (a Z) Abs() Z { return Z{false, a.digits} }

// Sign returns -1, 0 or 1 as a is below 0, 0, or above.
func (a Z) Sign() int {
	if a.isZero() {
		return 0
	}
	return signOf(!a.negative)
}

// Cmp returns the sign of a - b.
func (a Z) Cmp(b Z) int {
	if a.negative != b.negative {
		return signOf(b.negative)
	}
	if a.negative {
		return b.compare(a.digits)
	}
	return a.compare(b.digits)
}

// Quotient returns the quotient and the rest of a by d.
func (a Z) Quotient(d Z) (q, r Z, e api.Errno) {
	if d.isZero() {
		return Z{}, Z{}, api.ErrZero
	}
	q, r = a.divide(d)
	return q, r, api.OK
}

// divide returns the quotient and the rest of a by d, which is not 0. The rest
// is never negative, so that a quotient of a negative a, if it leaves a rest,
// lies one step farther from 0 than that of the absolute values.
func (a Z) divide(d Z) (quotient, rest Z) {
	q, r := a.over(d.digits)
	if a.negative && !r.isZero() {
		q, r = q.plus(digits{small: 1}), d.minus(r)
	}
	return signed(q, a.negative != d.negative), signed(r, false)
}

// Gcd returns the greatest common divisor, which is not negative; 0 of 0 and
// 0.
func Gcd(a, b Z) Z { return signed(a.common(b.digits), false) }
