package place

import (
	"iter"

	"copestone/stone"
	"copestone/whole"
)

// line goes from point to point, with rising X: the ground, or the underside
// or the top of a laid stone.
type line []stone.Point

func (l line) left() int { return l[0].X }

func (l line) right() int { return l[len(l)-1].X }

func (l line) holds(x whole.R) bool { return of(l.left()).Cmp(x) <= 0 && x.Cmp(of(l.right())) <= 0 }

// rises wants at least one point.
func (l line) rises() bool {
	for i, p := range l[1:] {
		if l[i].X >= p.X {
			return false
		}
	}
	return true
}

// edges are those between neighbours, each from its left to its right end.
func (l line) edges() iter.Seq2[stone.Point, stone.Point] {
	return func(yield func(from, to stone.Point) bool) {
		for i, to := range l[1:] {
			if !yield(l[i], to) {
				return
			}
		}
	}
}

// next returns the X of the first point to the right of x; there is one.
func (l line) next(x int) int {
	for _, p := range l {
		if p.X > x {
			return p.X
		}
	}
	return x
}

// at returns the height of the line at an x of its range. That of a point is
// whole, not a fraction of its edge: this keeps numbers small.
func (l line) at(x int) fraction {
	for i, p := range l {
		if p.X == x {
			return level(p.Z)
		}
		if p.X > x {
			return heightOn(l[i-1], p, x)
		}
	}
	return fraction{}
}

// heightOn returns the height of an edge at x.
func heightOn(from, to stone.Point, x int) fraction {
	wide := to.X - from.X
	return fraction{from.Z*wide + (to.Z-from.Z)*(x-from.X), wide}
}

// edge returns the edge with an x of the range. Of two edges that meet at x it
// is the right one, if that is wanted, and the left one otherwise.
func (l line) edge(x whole.R, rightOne bool) (from, to stone.Point) {
	for from, to = range l.edges() {
		side := x.Cmp(of(to.X))
		if side < 0 || side == 0 && !rightOne {
			break
		}
	}
	return from, to
}

// height returns the height of the line at an x of its range.
func (l line) height(x whole.R) whole.R {
	from, to := l.edge(x, false)
	steep := fraction{to.Z - from.Z, to.X - from.X}.ratio()
	return of(from.Z).Add(steep.Mul(x.Sub(of(from.X))))
}

// direction returns the shortest step with whole numbers along the edge at x.
func (l line) direction(x whole.R, rightOne bool) stone.Point {
	from, to := l.edge(x, rightOne)
	x1, z1 := to.X-from.X, to.Z-from.Z
	d := divisor(x1, z1)
	return stone.Point{X: x1 / d, Z: z1 / d}
}

// corners are the X of all points of the lines from one x to another, these
// two included, from left to right.
func corners(from, to int, lines ...line) iter.Seq[int] {
	return func(yield func(x int) bool) {
		for x := from; yield(x) && x < to; {
			nearest := to
			for _, l := range lines {
				nearest = min(nearest, l.next(x))
			}
			x = nearest
		}
	}
}

// above returns the area that lies below the line, above a level, and between
// two x.
func (l line) above(z, left, right int) whole.R {
	var area whole.R
	for from, to := range l.edges() {
		x, y := max(from.X, left), min(to.X, right)
		if x < y {
			a, b := heightOn(from, to, x).minus(level(z)), heightOn(from, to, y).minus(level(z))
			area = area.Add(slab(a.ratio(), b.ratio(), y-x))
		}
	}
	return area
}

// slab returns the area above 0 below an edge with these heights at its ends.
func slab(a, b whole.R, wide int) whole.R {
	high, low := whole.Max(a, b), whole.Min(a, b)
	switch {
	case high.Sign() <= 0:
		return whole.R{}
	case low.Sign() >= 0:
		return over(high.Add(low).Mul(of(wide)), of(2))
	}
	// Only a triangle is left, with this part of the width.
	part := over(high, high.Sub(low)).Mul(of(wide))
	return over(high.Mul(part), of(2))
}
