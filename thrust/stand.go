package thrust

import (
	"iter"
	"slices"
)

// done stands for the number of contacts upon a stone that need not be done.
const done = -1

// downward yields the stones: always the one with the least number of those
// that were not yielded, and on which none of those lies.
func (s stack) downward() iter.Seq[int] {
	return func(yield func(i int) bool) {
		upon := s.upon()
		for i := slices.Index(upon, 0); i >= 0 && yield(i); i = slices.Index(upon, 0) {
			upon[i] = done
			for c := range s.contacts(i) {
				if c.by != theGround {
					upon[c.by]--
				}
			}
		}
	}
}

// upon returns how many contacts there are on each stone; done, if it is not
// there.
func (s stack) upon() []int {
	upon := make([]int, len(s.stones))
	for i, b := range s.stones {
		if b == nil {
			upon[i] = done
			continue
		}
		for c := range s.contacts(i) {
			if c.by != theGround {
				upon[c.by]++
			}
		}
	}
	return upon
}

// start returns the sums of the weights and loads of all stones.
func (s stack) start() []sum {
	l := make([]sum, len(s.stones))
	for i, b := range s.stones {
		if b != nil {
			l[i] = b.own
		}
	}
	return l
}

// stand hands all loads down, and returns the forces by the stones that press;
// or how the first stone fails.
func (s stack) stand() ([]Force, *failure) {
	pressed := s.start()
	forces := make([][]Force, len(s.stones))
	for i := range s.downward() {
		switch f := s.decide(i, pressed[i]).(type) {
		case *failure:
			return nil, f
		case rest:
			for _, p := range f {
				forces[i] = append(forces[i], Force{i, p.by, p.at, p.force})
				if p.by != theGround {
					pressed[p.by] = pressed[p.by].with(p.at, p.force)
				}
			}
		}
	}
	return slices.Concat(forces...), nil
}

// isHeldBy tells whether forces are right.
func (s stack) isHeldBy(l []Force) bool {
	open := s.start()
	for _, f := range l {
		if !s.has(f.On) || !s.mayPress(f) {
			return false
		}
		open[f.On] = open[f.On].without(f.At, f.F)
		if f.By != theGround {
			open[f.By] = open[f.By].with(f.At, f.F)
		}
	}
	return !slices.ContainsFunc(open, func(o sum) bool { return !o.isZero() })
}

// mayPress tells whether a stone that is there has a contact for the force.
func (s stack) mayPress(f Force) bool {
	for c := range s.contacts(f.On) {
		if c.by == f.By && c.at.Same(f.At) {
			return c.carries(f.F, s.Low)
		}
	}
	return false
}
