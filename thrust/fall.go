package thrust

import (
	"slices"

	"copestone/whole"
)

// motion returns that of a reason.
func (s stack) motion(f *failure) Motion {
	kinds := [...]func(f *failure, friction whole.R) Motion{
		Hangs:  (*failure).sink,
		Lifts:  (*failure).rise,
		Tips:   (*failure).roll,
		Slides: (*failure).slip,
	}
	m := kinds[f.Kind](f, s.High)
	m.Stones = s.carried(f.Stone)
	return m
}

func (f *failure) sink(whole.R) Motion { return Motion{At: whole.V{Z: of(-1)}} }

func (f *failure) rise(whole.R) Motion { return Motion{At: whole.V{Z: of(1)}} }

func (f *failure) roll(whole.R) Motion { return Motion{Turn: f.turn, At: f.At} }

// slip leaves what carries just so steeply that friction does not hold; or, if
// the force does not press at all, goes where that goes.
func (f *failure) slip(friction whole.R) Motion {
	if f.into(f.force).Sign() <= 0 {
		return Motion{At: f.force}
	}
	along := f.way
	if f.force.Dot(f.way).Sign() <= 0 {
		along = whole.V{}.Sub(f.way)
	}
	up := whole.V{X: f.way.Z.Neg(), Z: f.way.X}
	return Motion{At: along.Add(up.Scale(friction))}
}

// carried returns a stone and all that lie on it, again and again.
func (s stack) carried(i int) []int {
	upward := slices.Collect(s.downward())
	slices.Reverse(upward)
	moves := make([]bool, len(s.stones))
	l := []int{i}
	moves[i] = true
	for _, j := range upward {
		if !moves[j] && s.liesOn(j, moves) {
			moves[j] = true
			l = append(l, j)
		}
	}
	slices.Sort(l)
	return l
}

// liesOn tells whether a stone lies on one of those that are marked.
func (s stack) liesOn(i int, marked []bool) bool {
	for c := range s.contacts(i) {
		if c.by != theGround && marked[c.by] {
			return true
		}
	}
	return false
}

// isFall tells whether a motion is a fall.
func (s stack) isFall(m Motion) bool {
	moves, valid := s.marked(m.Stones)
	if !valid || m.Turn < -1 || m.Turn > 1 {
		return false
	}
	for i := range s.stones {
		if s.has(i) && !s.isFree(i, m, moves) {
			return false
		}
	}
	return fold(m.Stones, whole.R{}, func(work whole.R, i int) whole.R {
		return work.Add(m.work(s.stones[i].own))
	}).Sign() > 0
}

// marked returns which stones a list means; false, if it does not rise, is
// empty, or has other numbers than those of stones that are there.
func (s stack) marked(l []int) ([]bool, bool) {
	marked := make([]bool, len(s.stones))
	for k, i := range l {
		if !s.has(i) || k > 0 && l[k-1] >= i {
			return nil, false
		}
		marked[i] = true
	}
	return marked, len(l) > 0
}

// isFree tells whether nothing at the contacts of a stone speaks against a
// motion: what lies on stones that move moves, too, and what moves leaves
// what does not.
func (s stack) isFree(i int, m Motion, moves []bool) bool {
	for c := range s.contacts(i) {
		onMoving := c.by != theGround && moves[c.by]
		if onMoving && !moves[i] {
			return false
		}
		if moves[i] && !onMoving && !c.frees(m.velocity(c.at), s.High) {
			return false
		}
	}
	return true
}

// velocity returns that of a point.
func (m Motion) velocity(at whole.V) whole.V {
	if m.Turn == 0 {
		return m.At
	}
	arm := at.Sub(m.At)
	return whole.V{X: arm.Z.Neg(), Z: arm.X}.Scale(of(m.Turn))
}

// work returns the sum of the Dots of the velocities of the places and the
// forces that were added to a sum.
func (m Motion) work(s sum) whole.R {
	if m.Turn == 0 {
		return m.At.Dot(s.force)
	}
	return s.turn.Sub(m.At.Cross(s.force)).Mul(of(m.Turn))
}
