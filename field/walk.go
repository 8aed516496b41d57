package field

import (
	"cmp"
	"math"
	"slices"
)

// trail is a walk with the best way across each border.
type trail struct {
	steps  []Step
	effort int
}

// and returns the trail with one more step.
func (t trail) and(s side) trail {
	best := s.best()
	steps := append(slices.Clone(t.steps), Step{s.border, best.number})
	return trail{steps, t.effort + best.effort}
}

func (t trail) isBetterThan(u trail) bool {
	byBorder := func(a, b Step) int { return cmp.Compare(a.Border, b.Border) }
	order := cmp.Or(cmp.Compare(t.effort, u.effort), cmp.Compare(len(t.steps), len(u.steps)), slices.CompareFunc(t.steps, u.steps, byBorder))
	return order < 0
}

// trails returns the best walk to each cell that is reached. The beginning of a
// best walk is a best walk: a better one there would be better at the end as well.
func (l land) trails(from int) map[int]trail {
	best := map[int]trail{from: {}}
	for changed := true; changed; {
		changed = false
		for s := range l.crossings() {
			before, ok := best[s.from]
			if !ok {
				continue
			}
			t := before.and(s)
			if known, ok := best[s.to]; !ok || t.isBetterThan(known) {
				best[s.to] = t
				changed = true
			}
		}
	}
	return best
}

// efforts returns a number for each cell: those that are not reached are farther
// than all others.
func (l land) efforts(best map[int]trail) []int {
	most := 0
	for _, t := range best {
		most = max(most, t.effort)
	}
	var proof []int
	for cell := range l.Cells {
		t, ok := best[cell]
		if !ok {
			t.effort = most + 1
		}
		proof = append(proof, t.effort)
	}
	return proof
}

// follow returns the effort of a walk, and whether it is one.
func (l land) follow(from, to int, steps []Step) (effort int, ok bool) {
	cell := from
	for _, step := range steps {
		s, p, ok := l.take(cell, step)
		if !ok {
			return 0, false
		}
		cell = s.to
		effort += p.effort
	}
	return effort, cell == to
}

// take returns what is crossed by a step that begins in a cell.
func (l land) take(cell int, step Step) (side, passage, bool) {
	if !within(step.Border, 0, len(l.fences)-1) {
		return side{}, passage{}, false
	}
	s := l.fences[step.Border].fromA
	if s.from != cell {
		s = l.fences[step.Border].fromB
	}
	p, ok := s.by(step.Way)
	return s, p, ok && s.from == cell
}

// holds tells whether the first cell has 0, and no cell more than the one before it
// and the effort between them.
func (l land) holds(from int, proof []int) bool {
	if len(proof) != len(l.Cells) || proof[from] != 0 {
		return false
	}
	for s := range l.crossings() {
		if isAbove(proof[s.to], proof[s.from], s.best().effort) {
			return false
		}
	}
	return true
}

// isAbove tells whether n is above the sum of base and effort. The numbers of a
// proof may be any: a sum that would be too great for an int has nothing above it.
func isAbove(n, base, effort int) bool { return base < math.MaxInt-effort && n > base+effort }
