package place

import (
	"copestone/api"
	"copestone/stone"
	"copestone/whole"
)

// theGround is the number that stands for the ground where others are those of stones.
const theGround = -1

// site is a valid wall whose stones are laid.
type site struct {
	ground line
	stones []laid
}

// visit returns the error of a wall that is not valid.
func visit(w Wall) (site, api.Errno) {
	if !isGround(w.Ground) {
		return site{}, api.ErrArg
	}
	if len(w.Stones) > api.MaxWall {
		return site{}, api.ErrLimit
	}
	s := site{w.Ground, make([]laid, 0, len(w.Stones))}
	for _, p := range w.Stones {
		a, e := s.place(p)
		if e != api.OK {
			return site{}, e
		}
		s.stones = append(s.stones, a)
	}
	for i := range s.stones {
		if !s.hasRoom(&s.stones[i], i) {
			return site{}, api.ErrVoid
		}
	}
	return s, api.OK
}

func isGround(l line) bool {
	if !within(len(l), 2, api.MaxGround) {
		return false
	}
	for _, p := range l {
		if !isNear(p) {
			return false
		}
	}
	return l.rises()
}

// place lays one more stone, over the ground and by a name of its own. It does
// not ask whether there is room.
func (s site) place(p Placed) (laid, api.Errno) {
	a, e := lay(p)
	if e != api.OK || a.left < s.ground.left() || a.right > s.ground.right() {
		return laid{}, api.ErrArg
	}
	for i := range s.stones {
		if s.stones[i].Stone.Name == p.Stone.Name {
			return laid{}, api.ErrTwice
		}
	}
	return a, api.OK
}

// hasRoom tells whether a stone gets neither into the ground nor into one of
// the first stones, as many as are told.
func (s site) hasRoom(a *laid, count int) bool {
	for i := range s.stones[:count] {
		if a.clashes(&s.stones[i]) {
			return false
		}
	}
	return s.overGround(a).opens()
}

func (s site) overGround(a *laid) gap {
	g, _ := gapOver(a.underside, s.ground)
	return g
}

func (s site) has(i int) bool { return within(i, 0, len(s.stones)-1) }

// rest is a bed of a stone on the stone with a number, or on the ground.
type rest struct {
	bed
	by  int
	top line
}

// on returns the bed of a stone on the stone with a number, or on the ground;
// false, if there is none.
func (s site) on(a *laid, by, pin int) (rest, bool) {
	g := s.overGround(a)
	if by != theGround {
		b := &s.stones[by]
		common := false
		if g, common = a.over(b); !common || !a.meets(b) {
			return rest{}, false
		}
	}
	r, found := g.bed(pin)
	return rest{r, by, g.lower}, found
}

// way returns the direction of the bed at an x of it.
func (r rest) way(x whole.R) stone.Point { return r.top.direction(x, x.Cmp(r.to) < 0) }

// under describes the bed as the stone that has it sees it.
func (r rest) under(a *laid) Bed {
	end := func(x whole.R) whole.V { return whole.V{X: x, Z: a.underside.height(x)} }
	return Bed{By: r.by, From: end(r.from), To: end(r.to), FromWay: r.way(r.from), ToWay: r.way(r.to)}
}

// Check returns the error of a wall.
func Check(w Wall) api.Errno {
	_, e := visit(w)
	return e
}

// Beds returns all beds of the stone i: that on the ground first, then those on
// other stones, by rising numbers.
func Beds(w Wall, i, pin int) ([]Bed, api.Errno) {
	s, e := visit(w)
	if e != api.OK {
		return nil, e
	}
	if !s.has(i) || !within(pin, 0, api.MaxPin) {
		return nil, api.ErrRange
	}
	a := &s.stones[i]
	var l []Bed
	for by := theGround; by < len(s.stones); by++ {
		if r, found := s.on(a, by, pin); found {
			l = append(l, r.under(a))
		}
	}
	return l, api.OK
}

// Way returns the direction of the bed of the stone a on the stone b, or on the
// ground (-1), at x.
func Way(w Wall, a, b, pin int, x whole.R) (stone.Point, api.Errno) {
	s, e := visit(w)
	if e != api.OK {
		return stone.Point{}, e
	}
	if !s.has(a) || !s.has(b) && b != theGround || !within(pin, 0, api.MaxPin) {
		return stone.Point{}, api.ErrRange
	}
	r, found := s.on(&s.stones[a], b, pin)
	if !found || !r.holds(x) {
		return stone.Point{}, api.ErrOpen
	}
	return r.way(x), api.OK
}

// Drop returns how far p can be moved down, in whole millimetres.
func Drop(w Wall, p Placed) (int, api.Errno) {
	s, e := visit(w)
	if e != api.OK {
		return 0, e
	}
	a, e := s.place(p)
	if e != api.OK {
		return 0, e
	}
	if !s.hasRoom(&a, len(s.stones)) {
		return 0, api.ErrVoid
	}
	_, low := s.overGround(&a).least()
	free := low.floor()
	for i := range s.stones {
		if b := &s.stones[i]; a.meets(b) && a.relation(b) == Above {
			g, _ := a.over(b)
			_, low := g.least()
			free = min(free, low.floor())
		}
	}
	return free, api.OK
}

// Height returns the greatest height of the ground and of the stones in a skin,
// at x.
func Height(w Wall, skin uint8, x whole.R) (whole.R, api.Errno) {
	s, e := visit(w)
	if e != api.OK {
		return whole.R{}, e
	}
	if !isFace(skin) {
		return whole.R{}, api.ErrArg
	}
	if !s.ground.holds(x) {
		return whole.R{}, api.ErrOpen
	}
	tops := []whole.R{s.ground.height(x)}
	for i := range s.stones {
		if a := &s.stones[i]; a.isIn(skin) && a.top.holds(x) {
			tops = append(tops, a.top.height(x))
		}
	}
	return whole.Max(tops...), api.OK
}

func isFace(skin uint8) bool { return skin == Front || skin == Back }

// Cover returns the area of the window from p to q that stones in a skin cover.
func Cover(w Wall, skin uint8, p, q stone.Point) (whole.R, api.Errno) {
	s, e := visit(w)
	if e != api.OK {
		return whole.R{}, e
	}
	if !isFace(skin) {
		return whole.R{}, api.ErrArg
	}
	if !isNear(p) || !isNear(q) || p.X >= q.X || p.Z >= q.Z {
		return whole.R{}, api.ErrRange
	}
	// Stones in one skin do not get into each other, so nothing counts twice.
	var area whole.R
	for i := range s.stones {
		if a := &s.stones[i]; a.isIn(skin) {
			area = area.Add(a.cover(p, q))
		}
	}
	return area, api.OK
}
