package place

import (
	"cmp"

	"copestone/whole"
)

// fraction is over/under; under is above 0. It spares the many comparisons at
// whole x the work of a whole.R. The under of a height is at most 2 MaxFar (on
// the ground) or MaxSide (on a stone); as long as one of two heights is that of
// a point, and so has the under 1, products fit into an int of 64 bits.
type fraction struct{ over, under int }

func level(z int) fraction { return fraction{z, 1} }

func (a fraction) minus(b fraction) fraction {
	return fraction{a.over*b.under - b.over*a.under, a.under * b.under}
}

// Cmp compares as that of whole.R does.
func (a fraction) Cmp(b fraction) int { return cmp.Compare(a.over*b.under, b.over*a.under) }

func (a fraction) sign() int { return cmp.Compare(a.over, 0) }

func (a fraction) floor() int {
	q := a.over / a.under
	if q*a.under > a.over {
		q--
	}
	return q
}

func (a fraction) ratio() whole.R {
	r, _ := whole.Ratio(int64(a.over), int64(a.under))
	return r
}

// over returns a/b; b is not 0.
func over(a, b whole.R) whole.R {
	r, _ := a.Div(b)
	return r
}

func of(n int) whole.R { return whole.Of(int64(n)) }

// divisor returns the greatest common divisor of a, which is above 0, and b.
func divisor(a, b int) int {
	for b != 0 {
		a, b = b, a%b
	}
	return max(a, -a)
}
