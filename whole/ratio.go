package whole

import (
	"strings"

	"copestone/api"
)

// R is a ratio of two integers, in lowest terms. The zero R is 0.
type R struct {
	numerator Z
	// Of an integer this is 0, which stands for 1: so each ratio, 0 as well,
	// has one form only.
	denominator digits
}

// lowest returns the ratio n/d, which is in lowest terms.
func lowest(n Z, d digits) R {
	if d.isOne() {
		return R{numerator: n}
	}
	return R{n, d}
}

// reduced returns the ratio n/d; d is not 0.
func reduced(n Z, d digits) R {
	g := n.common(d)
	return lowest(n.part(g), d.share(g))
}

// part returns a over d, which divides it.
func (a Z) part(d digits) Z { return signed(a.share(d), a.negative) }

// multiple returns d times a.
func (a Z) multiple(d digits) Z {
	if d.isOne() {
		return a
	}
	return signed(a.times(d), a.negative)
}

// under returns the denominator.
func (a R) under() digits {
	if a.denominator.isZero() {
		return digits{small: 1}
	}
	return a.denominator
}

// Of returns n as a ratio.
func Of(n int64) R { return Whole(Int(n)) }

// Whole returns z as a ratio.
func Whole(z Z) R { return R{numerator: z} }

// Ratio returns n/d.
func Ratio(n, d int64) (R, api.Errno) { return OfZ(Int(n), Int(d)) }

// OfZ returns n/d.
func OfZ(n, d Z) (R, api.Errno) {
	if d.isZero() {
		return R{}, api.ErrZero
	}
	if d.negative {
		n = n.Neg()
	}
	return reduced(n, d.digits), api.OK
}

// Parse returns the ratio of a text.
func Parse(s string) (R, api.Errno) {
	if len(s) > api.MaxDigits {
		return R{}, api.ErrLimit
	}
	above, below, isRatio := strings.Cut(s, "/")
	n, e := readZ(above)
	if e != api.OK {
		return R{}, e
	}
	if !isRatio {
		return Whole(n), api.OK
	}
	if !isNatural(below) {
		return R{}, api.ErrForm
	}
	return OfZ(n, signed(readDigits(below), false))
}

// Text returns the text of a.
func (a R) Text() string {
	text := a.numerator.Text()
	if d := a.Den(); !d.isOne() {
		text += "/" + d.Text()
	}
	return text
}

// Num returns the numerator.
func (a R) Num() Z { return a.numerator }

// Den returns the denominator.
func (a R) Den() Z { return signed(a.under(), false) }

// Add returns a + b. All that numerator and denominator of the sum can have in
// common is a part of what the denominators of a and b have in common, which
// is divided away first to keep the numbers small.
func (a R) Add(b R) R {
	p, q := a.under(), b.under()
	g := p.common(q)
	pRest, qRest := p.share(g), q.share(g)
	n := a.numerator.multiple(qRest).Add(b.numerator.multiple(pRest))
	h := n.common(g)
	return lowest(n.part(h), pRest.times(q.share(h)))
}

// Sub returns a - b.
func (a R) Sub(b R) R { return a.Add(b.Neg()) }

// Mul returns a b. Each numerator can only have something in common with the
// other's denominator.
func (a R) Mul(b R) R {
	p, q := a.under(), b.under()
	g, h := a.numerator.common(q), b.numerator.common(p)
	n := a.numerator.part(g).Mul(b.numerator.part(h))
	return lowest(n, p.share(h).times(q.share(g)))
}

// Div returns a/b.
func (a R) Div(b R) (R, api.Errno) {
	if b.numerator.isZero() {
		return R{}, api.ErrZero
	}
	inverse := lowest(signed(b.under(), b.numerator.negative), b.numerator.digits)
	return a.Mul(inverse), api.OK
}

// Neg returns -a.
func (a R) Neg() R { return R{a.numerator.Neg(), a.denominator} }

// Abs returns the absolute value of a.
func (a R) Abs() R { return R{a.numerator.Abs(), a.denominator} }

// Sign returns -1, 0 or 1 as a is below 0, 0, or above.
func (a R) Sign() int { return a.numerator.Sign() }

// Cmp returns the sign of a - b.
func (a R) Cmp(b R) int {
	return a.numerator.multiple(b.under()).Cmp(b.numerator.multiple(a.under()))
}

// Floor returns the greatest integer that is at most a.
func (a R) Floor() Z {
	q, _ := a.numerator.divide(a.Den())
	return q
}

// Ceil returns the least integer that is at least a.
func (a R) Ceil() Z { return a.Neg().Floor().Neg() }

// Sum returns the sum of the ratios; 0, if there are none.
func Sum(l ...R) R {
	var sum R
	for _, a := range l {
		sum = sum.Add(a)
	}
	return sum
}

// Min returns the least ratio; 0, if there are none.
func Min(l ...R) R { return extreme(l, -1) }

// Max returns the greatest ratio; 0, if there are none.
func Max(l ...R) R { return extreme(l, 1) }

// extreme returns the first ratio of which no other one lies on the side of
// this sign.
func extreme(l []R, side int) R {
	return foremost(l, func(a, b R) bool { return a.Cmp(b) == side })
}

// foremost returns the first element before which no other one comes; the zero
// value, if there are none.
func foremost[T any](l []T, before func(a, b T) bool) T {
	var found T
	for i, a := range l {
		if i == 0 || before(a, found) {
			found = a
		}
	}
	return found
}
