package place

import (
	"cmp"
	"iter"
	"slices"

	"copestone/api"
	"copestone/stone"
	"copestone/whole"
)

// laid is a valid laid stone with what follows from how it lies: its corners,
// its underside and its top, and the box around it.
type laid struct {
	Placed
	corners         []stone.Point
	underside, top  line
	left, right     int
	lowest, highest int
}

func within(n, least, most int) bool { return least <= n && n <= most }

func isNear(p stone.Point) bool {
	return within(p.X, -api.MaxFar, api.MaxFar) && within(p.Z, -api.MaxFar, api.MaxFar)
}

// lay returns ErrArg if the laid stone is not valid.
func lay(p Placed) (laid, api.Errno) {
	turned, e := stone.Turned(p.Stone, p.Way)
	if e != api.OK || !isNear(p.At) || p.Skin < Front || p.Skin > Through {
		return laid{}, api.ErrArg
	}
	l := make([]stone.Point, len(turned.Shape))
	copy(l, turned.Shape)
	far := p.At
	for i := range l {
		l[i].X += p.At.X
		l[i].Z += p.At.Z
		far = stone.Point{X: max(far.X, l[i].X), Z: max(far.Z, l[i].Z)}
	}
	underside, top := chains(l)
	// A turned shape begins at 0 in both directions.
	return laid{p, l, underside, top, p.At.X, far.X, p.At.Z, far.Z}, api.OK
}

// layBoth returns two laid stones that need not be in a wall.
func layBoth(p, q Placed) (a, b laid, e api.Errno) {
	if a, e = lay(p); e != api.OK {
		return laid{}, laid{}, e
	}
	if b, e = lay(q); e != api.OK {
		return laid{}, laid{}, e
	}
	return a, b, api.OK
}

// chains returns the underside and the top of a convex polygon whose corners
// are listed counterclockwise. Vertical sides belong to neither.
func chains(polygon []stone.Point) (underside, top line) {
	low := slices.Index(polygon, slices.MinFunc(polygon, func(p, q stone.Point) int {
		return cmp.Or(cmp.Compare(p.X, q.X), cmp.Compare(p.Z, q.Z))
	}))
	back := len(polygon) - 1
	high := (low + back) % len(polygon)
	if polygon[high].X > polygon[low].X {
		high = low
	}
	return chain(polygon, low, 1), chain(polygon, high, back)
}

// chain returns the corners that lie on the way to the right, step by step.
func chain(polygon []stone.Point, from, step int) line {
	l := make(line, 0, len(polygon))
	for i := from; len(l) == 0 || polygon[i].X > l.right(); i = (i + step) % len(polygon) {
		l = append(l, polygon[i])
	}
	return l
}

func (a *laid) meets(b *laid) bool {
	return a.Skin == b.Skin || a.Skin == Through || b.Skin == Through
}

func (a *laid) isIn(skin uint8) bool { return a.Skin == skin || a.Skin == Through }

func (a *laid) over(b *laid) (gap, bool) { return gapOver(a.underside, b.top) }

func (a *laid) relation(b *laid) uint8 {
	switch {
	case a.right <= b.left:
		return Left
	case a.left >= b.right:
		return Right
	case a.isAbove(b):
		return Above
	case b.isAbove(a):
		return Below
	}
	return Into
}

// isAbove wants a common range. The boxes tell most stones of a wall apart, so
// that few gaps are looked at.
func (a *laid) isAbove(b *laid) bool {
	if a.lowest >= b.highest {
		return true
	}
	if a.highest <= b.lowest {
		return false
	}
	g, _ := a.over(b)
	return g.opens()
}

// clashes tells whether both are in one skin, and get into each other.
func (a *laid) clashes(b *laid) bool { return a.meets(b) && a.relation(b) == Into }

// shared returns the lesser top and the greater underside at x.
func (a *laid) shared(b *laid, x whole.R) (low, up whole.R) {
	low = whole.Max(a.underside.height(x), b.underside.height(x))
	up = whole.Min(a.top.height(x), b.top.height(x))
	return low, up
}

// inside returns the point that P3.3 describes; the relation is Into.
func (a *laid) inside(b *laid) whole.V {
	x, _ := least(a.bends(b), func(x whole.R) whole.R {
		low, up := a.shared(b, x)
		return low.Sub(up)
	})
	low, up := a.shared(b, x)
	return whole.V{X: x, Z: over(low.Add(up), of(2))}
}

// bends are all x, from left to right, between which the lesser top and the
// greater underside are linear: there are the corners of both, and between them
// the points at which the tops or the undersides cross.
func (a *laid) bends(b *laid) iter.Seq[whole.R] {
	return func(yield func(x whole.R) bool) {
		tops, _ := gapOver(a.top, b.top)
		undersides, _ := gapOver(a.underside, b.underside)
		before := tops.from
		for x := range corners(tops.from, tops.to, a.underside, a.top, b.underside, b.top) {
			between := append(tops.crossed(before, x), undersides.crossed(before, x)...)
			slices.SortFunc(between, whole.R.Cmp)
			for _, y := range append(between, of(x)) {
				if !yield(y) {
					return
				}
			}
			before = x
		}
	}
}

// cover returns the area of the stone that lies in a window.
func (a *laid) cover(p, q stone.Point) whole.R {
	if a.right <= p.X || a.left >= q.X || a.highest <= p.Z || a.lowest >= q.Z {
		return whole.R{}
	}
	below := func(l line) whole.R {
		return l.above(p.Z, p.X, q.X).Sub(l.above(q.Z, p.X, q.X))
	}
	return below(a.top).Sub(below(a.underside))
}
