package thrust

import "copestone/whole"

// sum is that of some forces, and that of the Crosses of their places and them.
type sum struct {
	force whole.V
	turn  whole.R
}

func (s sum) with(at, force whole.V) sum {
	return sum{s.force.Add(force), s.turn.Add(at.Cross(force))}
}

func (s sum) without(at, force whole.V) sum {
	return s.with(at, force.Scale(whole.Of(-1)))
}

func (s sum) isZero() bool { return s.force.Same(whole.V{}) && s.turn.Sign() == 0 }

// fold adds the elements of a list to a start, one after the other.
func fold[S, T any](l []T, start S, add func(s S, t T) S) S {
	for _, t := range l {
		start = add(start, t)
	}
	return start
}
