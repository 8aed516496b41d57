package stone

import (
	"cmp"
	"iter"
	"slices"

	"copestone/api"
)

// border is the list of the corners of a convex shape, counterclockwise.
type border []Point

// moments are sums over all edges: the doubled area, and the numerators of the centre.
type moments struct{ twice, x, z int64 }

type stretch struct{ from, to int }

// turn is above 0 if the way from a by b to c turns left, below 0 if it turns right.
func turn(a, b, c Point) int {
	return (b.X-a.X)*(c.Z-a.Z) - (c.X-a.X)*(b.Z-a.Z)
}

// inOrder returns the first comparison that tells two things apart.
func inOrder(comparisons ...int) int {
	for _, c := range comparisons {
		if c != 0 {
			return c
		}
	}
	return 0
}

// lower compares in such a way that the first corner of a shape in its place is the least.
func lower(a, b Point) int {
	return inOrder(cmp.Compare(a.Z, b.Z), cmp.Compare(a.X, b.X))
}

func (b border) next(i int) int { return (i + 1) % len(b) }

func (b border) edges() iter.Seq2[Point, Point] {
	return func(yield func(from, to Point) bool) {
		for i, p := range b {
			if !yield(p, b[b.next(i)]) {
				return
			}
		}
	}
}

// inPlace tells whether the list, of whatever points, is a shape in its place.
func (b border) inPlace() bool {
	if !within(len(b), 3, api.MaxShape) {
		return false
	}
	left := b[0].X
	for _, p := range b {
		if !within(p.X, 0, api.MaxSide) || !within(p.Z, 0, api.MaxSide) {
			return false
		}
		left = min(left, p.X)
	}
	return left == 0 && b[0].Z == 0 && b[len(b)-1].Z > 0 && b.convex()
}

// convex wants no corner below the first one, and the last one above it. Left
// turns alone would allow a star, whose border goes around more than once; seen
// from the first corner, the others of a convex shape also follow each other
// from right to left.
func (b border) convex() bool {
	last := len(b) - 1
	for i, p := range b {
		j := b.next(i)
		if turn(p, b[j], b[b.next(j)]) <= 0 {
			return false
		}
		if i > 0 && i < last && turn(b[0], p, b[j]) <= 0 {
			return false
		}
	}
	return true
}

func (b border) moments() moments {
	var m moments
	for p, q := range b.edges() {
		t := int64(p.X*q.Z - q.X*p.Z)
		m.twice += t
		m.x += int64(p.X+q.X) * t
		m.z += int64(p.Z+q.Z) * t
	}
	return m
}

func (b border) twice() int64 { return b.moments().twice }

// farthest returns the greatest X and the greatest Z.
func (b border) farthest() Point {
	far := b[0]
	for _, p := range b {
		far = Point{max(far.X, p.X), max(far.Z, p.Z)}
	}
	return far
}

// bottom wants a shape in its place: only its first two corners can be at the Z 0.
func (b border) bottom() stretch {
	if b[1].Z == 0 {
		return stretch{b[0].X, b[1].X}
	}
	return stretch{b[0].X, b[0].X}
}

// put returns the shape moved and listed so that it is in its place.
func (b border) put() border {
	lowest := slices.MinFunc(b, lower)
	start, left := slices.Index(b, lowest), lowest.X
	for _, p := range b {
		left = min(left, p.X)
	}
	l := make(border, 0, len(b))
	for i := range b {
		p := b[(start+i)%len(b)]
		l = append(l, Point{p.X - left, p.Z - lowest.Z})
	}
	return l
}

// chain returns the points at which the way along them turns left, with both ends.
func chain(points iter.Seq2[int, Point]) border {
	var l border
	add := func(p Point) {
		for len(l) > 1 && turn(l[len(l)-2], l[len(l)-1], p) <= 0 {
			l = l[:len(l)-1]
		}
		l = append(l, p)
	}
	for _, p := range points {
		add(p)
	}
	return l
}

// Hull returns the corners of the convex hull of the points, as a shape in its place.
func Hull(l []Point) ([]Point, api.Errno) {
	for _, p := range l {
		if !within(p.X, -api.MaxSide, api.MaxSide) || !within(p.Z, -api.MaxSide, api.MaxSide) {
			return nil, api.ErrRange
		}
	}
	hull := around(slices.SortedFunc(slices.Values(l), lower))
	if len(hull) < 3 {
		return nil, api.ErrArg
	}
	hull = hull.put()
	if far := hull.farthest(); len(hull) > api.MaxShape || far.X > api.MaxSide || far.Z > api.MaxSide {
		return nil, api.ErrLimit
	}
	return hull, api.OK
}

// around returns the border of the hull of points that are sorted: the way up,
// and the way down. Each of them leaves its last point to the other one.
func around(points []Point) border {
	if len(points) == 0 {
		return nil
	}
	up, down := chain(slices.All(points)), chain(slices.Backward(points))
	last, end := len(up)-1, len(down)-1
	return append(up[:last:last], down[:end:end]...)
}
