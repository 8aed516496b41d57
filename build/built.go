package build

import (
	"slices"

	"copestone/api"
	"copestone/place"
	"copestone/plan"
	"copestone/stone"
)

// isBuilt tells whether the wall, which may be any, is built up to a number of
// courses, which there are.
func (y yard) isBuilt(w place.Wall, courses int) bool {
	return slices.Equal(w.Ground, y.ground()) && place.Check(w) == api.OK &&
		!slices.ContainsFunc(w.Stones, func(p place.Placed) bool { return !y.owns(p.Stone) }) &&
		y.isCoursed(w, courses) && y.isBonded(w) && y.stands(w)
}

// owns tells whether a stone is one of the heap's.
func (y yard) owns(s stone.Stone) bool {
	return slices.ContainsFunc(y.Heap, func(h stone.Stone) bool { return same(s, h) })
}

func same(a, b stone.Stone) bool {
	return a.Name == b.Name && slices.Equal(a.Shape, b.Shape) &&
		a.Depth == b.Depth && a.Density == b.Density && a.Grain == b.Grain
}

// isCoursed tells whether the stones of the skin make up the courses. No stone
// fits two of them, as each is higher than Level.
func (y yard) isCoursed(w place.Wall, courses int) bool {
	rest := y.face(w)
	for i := range courses {
		l := y.layer(i)
		var its, others []body
		for _, b := range rest {
			if l.fits(b) {
				its = append(its, b)
			} else {
				others = append(others, b)
			}
		}
		if !l.isMadeOf(its) {
			return false
		}
		rest = others
	}
	return len(rest) == 0
}

// isMadeOf wants all stones that fit the course.
func (l layer) isMadeOf(stones []body) bool {
	for _, b := range stones {
		if !l.isInBay(b) || !l.isRightlyDeep(b) {
			return false
		}
	}
	return len(l.open(stones)) == 0 && !slices.ContainsFunc(l.free(stones), l.isTooWide)
}

func (l layer) isInBay(b body) bool {
	return slices.ContainsFunc(l.bays, func(bay plan.Bay) bool { return bay.From <= b.left && b.right <= bay.To })
}

func (l layer) isRightlyDeep(b body) bool {
	if b.Skin == place.Through {
		return b.Stone.Depth >= l.width
	}
	return b.Stone.Depth <= l.width
}
