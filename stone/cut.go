package stone

import (
	"iter"

	"copestone/api"
)

func between(n, a, b int) bool { return within(n, min(a, b), max(a, b)) }

// onEdge looks at the box of the edge first: a point outside of it may be so
// far away that its turn overflows.
func onEdge(p, from, to Point) bool {
	return between(p.X, from.X, to.X) && between(p.Z, from.Z, to.Z) && turn(from, to, p) == 0
}

func size(n int) int { return max(n, -n) }

func divisor(a, b int) int {
	for b != 0 {
		a, b = b, a%b
	}
	return a
}

// steps returns the number of steps of an edge, and one of them.
func steps(from, to Point) (int, Point) {
	n := divisor(size(to.X-from.X), size(to.Z-from.Z))
	return n, Point{(to.X - from.X) / n, (to.Z - from.Z) / n}
}

// points are the border points, counterclockwise from the first corner on.
func (b border) points() iter.Seq[Point] {
	return func(yield func(Point) bool) {
		for from, to := range b.edges() {
			n, step := steps(from, to)
			for i := range n {
				if !yield(Point{from.X + i*step.X, from.Z + i*step.Z}) {
					return
				}
			}
		}
	}
}

// others are the border points but p, in the order that begins behind p.
func (b border) others(p Point) iter.Seq[Point] {
	return func(yield func(Point) bool) {
		var before []Point
		behind := false
		for q := range b.points() {
			switch {
			case q == p:
				behind = true
			case !behind:
				before = append(before, q)
			case !yield(q):
				return
			}
		}
		for _, q := range before {
			if !yield(q) {
				return
			}
		}
	}
}

// edgeOf returns the number of the edge with the border point p; that of a
// corner is the edge which begins there. It is -1 if p is no border point.
func (b border) edgeOf(p Point) int {
	for i, from := range b {
		if to := b[b.next(i)]; p != to && onEdge(p, from, to) {
			return i
		}
	}
	return -1
}

func (b border) isPoint(p Point) bool { return b.edgeOf(p) >= 0 }

// canCut wants two border points.
func (b border) canCut(p, q Point) bool {
	for from, to := range b.edges() {
		if onEdge(p, from, to) && onEdge(q, from, to) {
			return false
		}
	}
	return true
}

// part returns the corners of the piece to the right of the way from p to q,
// which can be cut: the border from p on to q.
func (b border) part(p, q Point) border {
	l := border{p}
	end := b.edgeOf(q)
	for i := b.edgeOf(p); i != end; {
		i = b.next(i)
		if b[i] != q {
			l = append(l, b[i])
		}
	}
	return append(l, q)
}

// Border returns the border points.
func Border(s Stone) ([]Point, api.Errno) {
	return ask(s, func() []Point {
		var l []Point
		for p := range border(s.Shape).points() {
			l = append(l, p)
		}
		return l
	})
}

// Split returns the pieces of the cut from p to q, the one to the left first.
func Split(s Stone, p, q Point) (a, b Stone, e api.Errno) {
	if e := Check(s); e != api.OK {
		return Stone{}, Stone{}, e
	}
	whole := border(s.Shape)
	if !whole.isPoint(p) || !whole.isPoint(q) {
		return Stone{}, Stone{}, api.ErrNone
	}
	if !whole.canCut(p, q) {
		return Stone{}, Stone{}, api.ErrArg
	}
	left, right := whole.part(q, p), whole.part(p, q)
	if len(s.Name) == api.MaxName || max(len(left), len(right)) > api.MaxShape {
		return Stone{}, Stone{}, api.ErrLimit
	}
	return s.piece("a", left), s.piece("b", right), api.OK
}

func (s Stone) piece(letter string, part border) Stone {
	s.Name += letter
	s.Shape = part.put()
	return s
}

// outcomes are those of a blow on p with the tolerance t.
func (s Stone) outcomes(p Point, t int) iter.Seq[Point] {
	return func(yield func(Point) bool) {
		shape := border(s.Shape)
		for q := range shape.others(p) {
			if s.alongGrain(p, q, t) && shape.canCut(p, q) && !yield(q) {
				return
			}
		}
	}
}

func (s Stone) alongGrain(p, q Point, t int) bool {
	x, z := q.X-p.X, q.Z-p.Z
	across := size(x*s.Grain.Z - z*s.Grain.X)
	along := size(x*s.Grain.X + z*s.Grain.Z)
	return 100*across <= t*along
}

func checkBlow(s Stone, p Point, t int) api.Errno {
	if e := Check(s); e != api.OK {
		return e
	}
	if !border(s.Shape).isPoint(p) {
		return api.ErrNone
	}
	if !within(t, 0, maxTolerance) {
		return api.ErrRange
	}
	return api.OK
}

// Outcomes returns the points to which the stone may break, if it is struck at p.
func Outcomes(s Stone, p Point, t int) ([]Point, api.Errno) {
	if e := checkBlow(s, p, t); e != api.OK {
		return nil, e
	}
	var l []Point
	for q := range s.outcomes(p, t) {
		l = append(l, q)
	}
	return l, api.OK
}

// Sure returns the least doubled area of the greater piece, over all outcomes.
func Sure(s Stone, p Point, t int) (int64, api.Errno) {
	if e := checkBlow(s, p, t); e != api.OK {
		return 0, e
	}
	least, found := int64(0), false
	shape := border(s.Shape)
	all := shape.twice()
	for q := range s.outcomes(p, t) {
		right := shape.part(p, q).twice()
		if greater := max(right, all-right); !found || greater < least {
			least, found = greater, true
		}
	}
	if !found {
		return 0, api.ErrNone
	}
	return least, api.OK
}

// Chip cuts off a corner, from so many steps before it to so many behind it.
func Chip(s Stone, corner, back, on int) (rest, chip Stone, e api.Errno) {
	if e := Check(s); e != api.OK {
		return Stone{}, Stone{}, e
	}
	count := len(s.Shape)
	if !within(corner, 0, count-1) {
		return Stone{}, Stone{}, api.ErrRange
	}
	c := s.Shape[corner]
	most, before := steps(c, s.Shape[(corner+count-1)%count])
	far, behind := steps(c, s.Shape[(corner+1)%count])
	if !within(back, 1, most) || !within(on, 1, far) {
		return Stone{}, Stone{}, api.ErrRange
	}
	p := Point{c.X + back*before.X, c.Z + back*before.Z}
	q := Point{c.X + on*behind.X, c.Z + on*behind.Z}
	// The corner is to the right of the way from p to q.
	return Split(s, p, q)
}
