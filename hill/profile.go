package hill

import (
	"iter"
	"slices"
	"sort"

	"copestone/api"
	"copestone/stone"
	"copestone/whole"
)

// profile is a list of points of the ground, from left to right.
type profile []stone.Point

func (p profile) isSound() bool {
	if !within(len(p), 2, api.MaxGround) {
		return false
	}
	for i, c := range p {
		if !within(c.X, -api.MaxFar, api.MaxFar) || !within(c.Z, -api.MaxFar, api.MaxFar) {
			return false
		}
		if i > 0 && c.X <= p[i-1].X {
			return false
		}
	}
	return true
}

func (p profile) holds(x int) bool { return within(x, p[0].X, p[len(p)-1].X) }

// height returns the ground at an x that the profile holds.
func (p profile) height(x int) whole.R {
	i := slices.IndexFunc(p, func(c stone.Point) bool { return c.X >= x })
	to := p[i]
	if to.X == x {
		return of(to.Z)
	}
	from := p[i-1]
	wide := to.X - from.X
	return ratio(from.Z*wide+(to.Z-from.Z)*(x-from.X), wide)
}

// stretch is a part of a profile.
type stretch struct {
	profile
	from, to int
}

// enter returns the stretch of a profile from a to b.
func enter(l []stone.Point, a, b int) (stretch, api.Errno) {
	if e := Check(l); e != api.OK {
		return stretch{}, e
	}
	s := stretch{l, a, b}
	if a >= b || !s.holds(a) || !s.holds(b) {
		return stretch{}, api.ErrOpen
	}
	return s, api.OK
}

func (s stretch) wide() int { return s.to - s.from }

// pieces are the parts of the stretch between neighbouring points of the profile,
// from left to right: there the ground is straight.
func (s stretch) pieces() iter.Seq[stretch] {
	return func(yield func(piece stretch) bool) {
		from := s.from
		for _, c := range s.profile {
			to := min(c.X, s.to)
			if to > from && !yield(stretch{s.profile, from, to}) {
				return
			}
			from = max(from, to)
		}
	}
}

// heights returns the ground at the ends of all pieces: it is nowhere lower than
// the least of them, nor higher than the greatest.
func (s stretch) heights() []whole.R {
	l := []whole.R{s.height(s.from)}
	for piece := range s.pieces() {
		l = append(l, s.height(piece.to))
	}
	return l
}

// sum adds up what pieces have.
func (s stretch) sum(amount func(piece stretch) whole.R) whole.R {
	var total whole.R
	for piece := range s.pieces() {
		total = total.Add(amount(piece))
	}
	return total
}

// above returns the area above the level z.
func (s stretch) above(z int) whole.R {
	return s.sum(func(piece stretch) whole.R {
		a, b := s.height(piece.from), s.height(piece.to)
		return slab(a.Sub(of(z)), b.Sub(of(z)), piece.wide())
	})
}

// below returns the area below the level z.
func (s stretch) below(z int) whole.R {
	return s.sum(func(piece stretch) whole.R {
		a, b := s.height(piece.from), s.height(piece.to)
		return slab(of(z).Sub(a), of(z).Sub(b), piece.wide())
	})
}

// slab returns the area above 0 and below a line with these heights at its ends.
// If it slopes, this is the integral over its heights, of which those below 0 count
// nothing: so the place where it meets 0 is not needed.
func slab(a, b whole.R, wide int) whole.R {
	var zero whole.R
	p, q := whole.Max(a, zero), whole.Max(b, zero)
	if a.Cmp(b) == 0 {
		return p.Mul(of(wide))
	}
	squares := p.Mul(p).Sub(q.Mul(q))
	return over(squares.Mul(of(wide)), a.Sub(b).Mul(of(2)))
}

// flood returns the least level whose pool is at least the area, and whether there
// is one.
func (s stretch) flood(area whole.R) (level int, reached bool) {
	levels := 2*api.MaxFar + 1
	i := sort.Search(levels, func(i int) bool { return s.below(i-api.MaxFar).Cmp(area) >= 0 })
	return i - api.MaxFar, i < levels
}

func of(n int) whole.R { return whole.Of(int64(n)) }

// ratio returns n/d; d is not 0.
func ratio(n, d int) whole.R { return over(of(n), of(d)) }

// over returns a/b; b is not 0.
func over(a, b whole.R) whole.R {
	r, _ := a.Div(b)
	return r
}

// small returns an integer that is known to be an int.
func small(z whole.Z) int {
	n, _ := z.Int64()
	return int(n)
}
