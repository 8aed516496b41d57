package thrust_test

import (
	"math/big"
	"slices"

	"copestone/place"
	"copestone/thrust"
	"copestone/whole"
)

func q(n, d int64) rat { return big.NewRat(n, d) }

func add(a, b rat) rat { return new(big.Rat).Add(a, b) }

func sub(a, b rat) rat { return new(big.Rat).Sub(a, b) }

func mul(a, b rat) rat { return new(big.Rat).Mul(a, b) }

func quo(a, b rat) rat { return new(big.Rat).Quo(a, b) }

// vec is a pair of X and Z.
type vec [2]rat

func vecOf(a whole.V) vec { return vec{toRat(a.X), toRat(a.Z)} }

func vecAt(p point) vec { return vec{q(int64(p.X), 1), q(int64(p.Z), 1)} }

func (a vec) v() whole.V { return whole.V{X: toR(a[0]), Z: toR(a[1])} }

func (a vec) add(b vec) vec { return vec{add(a[0], b[0]), add(a[1], b[1])} }

func (a vec) sub(b vec) vec { return vec{sub(a[0], b[0]), sub(a[1], b[1])} }

func (a vec) times(k rat) vec { return vec{mul(a[0], k), mul(a[1], k)} }

func (a vec) cross(b vec) rat { return sub(mul(a[0], b[1]), mul(a[1], b[0])) }

func (a vec) dot(b vec) rat { return add(mul(a[0], b[0]), mul(a[1], b[1])) }

func (a vec) same(b vec) bool { return a[0].Cmp(b[0]) == 0 && a[1].Cmp(b[1]) == 0 }

// spot is a contact as the slow ways see it.
type spot struct {
	by    int
	at, d vec
}

func isIn(c cased, i int) bool {
	if i < 0 || i >= len(c.Wall.Stones) {
		return false
	}
	skin := c.Wall.Stones[i].Skin
	return skin == c.Skin || skin == place.Through
}

func stonesOf(c cased) []int {
	var l []int
	for i := range c.Wall.Stones {
		if isIn(c, i) {
			l = append(l, i)
		}
	}
	return l
}

func bedsOf(c cased, i int) []place.Bed {
	var l []place.Bed
	all, _ := place.Beds(c.Wall, i, c.Pin)
	for _, b := range all {
		if b.By == -1 || isIn(c, b.By) {
			l = append(l, b)
		}
	}
	return l
}

// slow is a case with the beds of its stones.
type slow struct {
	cased
	beds map[int][]place.Bed
}

func slowOf(c cased) slow {
	s := slow{c, map[int][]place.Bed{}}
	for _, i := range stonesOf(c) {
		s.beds[i] = bedsOf(c, i)
	}
	return s
}

// liesOn tells whether a stone has a bed on another one.
func (c slow) liesOn(i, by int) bool {
	return slices.ContainsFunc(c.beds[i], func(b place.Bed) bool { return b.By == by })
}

func (c slow) spots(i int) []spot {
	var l []spot
	for _, b := range c.beds[i] {
		from := spot{b.By, vecOf(b.From), vecAt(b.FromWay)}
		to := spot{b.By, vecOf(b.To), vecAt(b.ToWay)}
		l = append(l, from)
		if !from.at.same(to.at) {
			l = append(l, to)
		}
	}
	return l
}

// weightOf returns the centre and the weight of a stone of a case.
func weightOf(c cased, i int) (at, f vec) {
	p := c.Wall.Stones[i]
	corners, _ := place.Corners(p)
	twice, x, z := q(0, 1), q(0, 1), q(0, 1)
	for k, a := range corners {
		b := corners[(k+1)%len(corners)]
		part := q(int64(a.X*b.Z-b.X*a.Z), 1)
		twice = add(twice, part)
		x = add(x, mul(part, q(int64(a.X+b.X), 1)))
		z = add(z, mul(part, q(int64(a.Z+b.Z), 1)))
	}
	weight := mul(twice, q(int64(p.Stone.Depth*p.Stone.Density), 1))
	if p.Skin == place.Through {
		weight = quo(weight, q(2, 1))
	}
	by := mul(twice, q(3, 1))
	return vec{quo(x, by), quo(z, by)}, vec{q(0, 1), new(big.Rat).Neg(weight)}
}

// acting is a force with its place.
type acting struct{ at, f vec }

// actingOn returns the weight and the loads of a stone.
func actingOn(c cased, i int) []acting {
	place, weight := weightOf(c, i)
	l := []acting{{place, weight}}
	for _, x := range c.Loads {
		if x.Stone == i {
			l = append(l, acting{vecOf(x.At), vecOf(x.Force)})
		}
	}
	return l
}

func sumOf(l []acting) (f vec, u rat) {
	f, u = vec{q(0, 1), q(0, 1)}, q(0, 1)
	for _, x := range l {
		f, u = f.add(x.f), add(u, x.at.cross(x.f))
	}
	return f, u
}

func mayPress(s spot, f vec, m rat) bool {
	into := sub(mul(f[0], s.d[1]), mul(f[1], s.d[0]))
	along := new(big.Rat).Abs(add(mul(f[0], s.d[0]), mul(f[1], s.d[1])))
	return into.Sign() > 0 && along.Cmp(mul(m, into)) <= 0
}

// slowStand is what the rule of thrust says: forces; or a reason, and of that
// the motion.
type slowStand struct {
	forces []force
	reason thrust.Reason
	motion motion
}

// next returns the stone that is to be done next; -1, if there is none.
func (c slow) next(done map[int]bool) int {
	for _, i := range stonesOf(c.cased) {
		free := !done[i]
		for _, j := range stonesOf(c.cased) {
			if !done[j] && c.liesOn(j, i) {
				free = false
			}
		}
		if free {
			return i
		}
	}
	return -1
}

func slowly(x cased) slowStand {
	c := slowOf(x)
	done := map[int]bool{}
	pressed := map[int][]acting{}
	forces := map[int][]force{}
	for {
		i := c.next(done)
		if i < 0 {
			break
		}
		done[i] = true
		pushes, failed := c.rule(i, append(actingOn(x, i), pressed[i]...))
		if failed != nil {
			failed.motion.Stones = c.upon(i)
			return *failed
		}
		for _, p := range pushes {
			forces[i] = append(forces[i], force{On: i, By: p.by, At: p.at.v(), F: p.d.v()})
			pressed[p.by] = append(pressed[p.by], acting{p.at, p.d})
		}
	}
	var l []force
	for _, i := range stonesOf(x) {
		l = append(l, forces[i]...)
	}
	return slowStand{forces: l}
}

// rule returns the spots at which a stone presses, with its forces in the
// place of directions; or how it fails.
func (c slow) rule(i int, pressing []acting) ([]spot, *slowStand) {
	f, u := sumOf(pressing)
	spots := c.spots(i)
	failed := func(kind uint8, by int, at whole.V, turn int, how whole.V) *slowStand {
		return &slowStand{nil, thrust.Reason{Stone: i, Kind: kind, By: by, At: at}, motion{Turn: turn, At: how}}
	}
	if len(spots) == 0 {
		return nil, failed(thrust.Hangs, -1, whole.V{}, 0, v(0, -1))
	}
	if f[1].Sign() >= 0 {
		return nil, failed(thrust.Lifts, -1, whole.V{}, 0, v(0, 1))
	}
	var l, r, least, greatest *spot
	turn := func(s *spot) rat { return s.at.cross(f) }
	for k := range spots {
		s := &spots[k]
		if turn(s).Cmp(u) <= 0 && (l == nil || turn(s).Cmp(turn(l)) > 0) {
			l = s
		}
		if turn(s).Cmp(u) >= 0 && (r == nil || turn(s).Cmp(turn(r)) < 0) {
			r = s
		}
		if least == nil || turn(s).Cmp(turn(least)) < 0 {
			least = s
		}
		if greatest == nil || turn(s).Cmp(turn(greatest)) > 0 {
			greatest = s
		}
	}
	if l == nil {
		return nil, failed(thrust.Tips, least.by, least.at.v(), -1, least.at.v())
	}
	if r == nil {
		return nil, failed(thrust.Tips, greatest.by, greatest.at.v(), 1, greatest.at.v())
	}
	atL, atR := []acting{{l.at, f}}, []acting{}
	if turn(l).Cmp(u) != 0 {
		part := quo(sub(u, turn(l)), sub(turn(r), turn(l)))
		atL, atR = []acting{{l.at, f.times(sub(q(1, 1), part))}}, []acting{{r.at, f.times(part)}}
	}
	var pushes []spot
	for k, p := range append(atL, atR...) {
		s := []*spot{l, r}[k]
		if !mayPress(*s, p.f, toRat(c.Low)) {
			return nil, failed(thrust.Slides, s.by, s.at.v(), 0, slipOf(*s, p.f, toRat(c.High)))
		}
		pushes = append(pushes, spot{s.by, s.at, p.f})
	}
	return pushes, nil
}

func slipOf(s spot, f vec, high rat) whole.V {
	into := sub(mul(f[0], s.d[1]), mul(f[1], s.d[0]))
	if into.Sign() <= 0 {
		return f.v()
	}
	sign := q(-1, 1)
	if add(mul(f[0], s.d[0]), mul(f[1], s.d[1])).Sign() > 0 {
		sign = q(1, 1)
	}
	return vec{sub(mul(sign, s.d[0]), mul(high, s.d[1])), add(mul(sign, s.d[1]), mul(high, s.d[0]))}.v()
}

// upon returns a stone and all that lie on it, again and again.
func (c slow) upon(i int) []int {
	l := []int{i}
	for grown := true; grown; {
		grown = false
		for _, j := range stonesOf(c.cased) {
			if !slices.Contains(l, j) && slices.ContainsFunc(l, func(k int) bool { return c.liesOn(j, k) }) {
				l, grown = append(l, j), true
			}
		}
	}
	slices.Sort(l)
	return l
}

// slowRight tells whether forces are right for a valid case.
func slowRight(c cased, l []force) bool {
	s := slowOf(c)
	for _, f := range l {
		right := false
		if isIn(c, f.On) && f.By != f.On && (f.By == -1 || isIn(c, f.By)) {
			for _, k := range s.spots(f.On) {
				right = right || k.by == f.By && k.at.same(vecOf(f.At)) && mayPress(k, vecOf(f.F), toRat(c.Low))
			}
		}
		if !right {
			return false
		}
	}
	for _, i := range stonesOf(c) {
		acts := actingOn(c, i)
		for _, f := range l {
			if f.By == i {
				acts = append(acts, acting{vecOf(f.At), vecOf(f.F)})
			}
			if f.On == i {
				acts = append(acts, acting{vecOf(f.At), vecOf(f.F).times(q(-1, 1))})
			}
		}
		if f, u := sumOf(acts); f[0].Sign() != 0 || f[1].Sign() != 0 || u.Sign() != 0 {
			return false
		}
	}
	return true
}

func velocityOf(m motion, at vec) vec {
	if m.Turn == 0 {
		return vecOf(m.At)
	}
	d := at.sub(vecOf(m.At))
	return vec{mul(q(int64(-m.Turn), 1), d[1]), mul(q(int64(m.Turn), 1), d[0])}
}

// slowFalls tells whether a motion is a fall of a valid case.
func slowFalls(c cased, m motion) bool {
	if len(m.Stones) == 0 || m.Turn != 0 && m.Turn != 1 && m.Turn != -1 {
		return false
	}
	for k, i := range m.Stones {
		if !isIn(c, i) || k > 0 && m.Stones[k-1] >= i {
			return false
		}
	}
	work := q(0, 1)
	slow := slowOf(c)
	for _, i := range stonesOf(c) {
		moves := slices.Contains(m.Stones, i)
		for _, s := range slow.spots(i) {
			below := slices.Contains(m.Stones, s.by)
			if below && !moves {
				return false
			}
			if moves && !below {
				x := velocityOf(m, s.at)
				up := sub(mul(x[1], s.d[0]), mul(x[0], s.d[1]))
				along := add(mul(x[0], s.d[0]), mul(x[1], s.d[1]))
				if up.Cmp(mul(toRat(c.High), new(big.Rat).Abs(along))) < 0 {
					return false
				}
			}
		}
		if moves {
			for _, a := range actingOn(c, i) {
				work = add(work, velocityOf(m, a.at).dot(a.f))
			}
		}
	}
	return work.Sign() > 0
}
