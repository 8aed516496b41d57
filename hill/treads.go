package hill

import (
	"slices"

	"copestone/api"
	"copestone/stone"
	"copestone/whole"
)

// divide returns the treads between breaks of a profile.
func divide(l []stone.Point, breaks []int) ([]stretch, api.Errno) {
	if e := Check(l); e != api.OK {
		return nil, e
	}
	p := profile(l)
	if !p.hasBreaks(breaks) {
		return nil, api.ErrArg
	}
	return p.treads(breaks), api.OK
}

func (p profile) hasBreaks(breaks []int) bool {
	if !within(len(breaks), 2, api.MaxTreads+1) {
		return false
	}
	for i, x := range breaks {
		if !p.holds(x) || i > 0 && x <= breaks[i-1] {
			return false
		}
	}
	return true
}

// treads wants breaks of the profile.
func (p profile) treads(breaks []int) []stretch {
	var l []stretch
	for i, to := range breaks[1:] {
		l = append(l, stretch{p, breaks[i], to})
	}
	return l
}

// foot returns the greatest level that lies so deep below all of the ground.
func (s stretch) foot(depth int) int { return small(whole.Min(s.heights()...).Floor()) - depth }

// head returns the least level that lies so high above all of the ground.
func (s stretch) head(height int) int { return small(whole.Max(s.heights()...).Ceil()) + height }

// alone returns the levels of treads that take no account of each other.
func alone(treads []stretch, far int, level func(s stretch, far int) int) []int {
	var l []int
	for _, t := range treads {
		l = append(l, level(t, far))
	}
	return l
}

// levels returns those of treads that lie so far from the ground, and of which none
// is farther from its neighbours than the rise allows: beside says how near it is.
func levels(l []stone.Point, breaks []int, far, rise int, level func(s stretch, far int) int, beside func(level, beside int) int) ([]int, api.Errno) {
	treads, e := divide(l, breaks)
	if e != api.OK {
		return nil, e
	}
	if !within(far, 0, api.MaxHigh) || !within(rise, 0, api.MaxHigh) {
		return nil, api.ErrRange
	}
	steps := alone(treads, far, level)
	follow(steps, beside)
	return steps, api.OK
}

// follow changes each element by what is beside it: from left to right by the one
// before it, then back by the one behind it. So each is changed by all others.
func follow[T any](l []T, beside func(t, beside T) T) {
	for i := 1; i < len(l); i++ {
		l[i] = beside(l[i], l[i-1])
	}
	for i := len(l) - 1; i > 0; i-- {
		l[i-1] = beside(l[i-1], l[i])
	}
}

// areLevels tells whether there is a sound level for each tread.
func areLevels(l []int, treads []stretch) bool {
	return len(l) == len(treads) && slices.Min(l) >= -maxLevel && slices.Max(l) <= maxLevel
}

// digging returns the area of the ground that is above the levels.
func digging(treads []stretch, levels []int) whole.R {
	var area whole.R
	for i, t := range treads {
		area = area.Add(t.above(levels[i]))
	}
	return area
}

// rows returns those with a bay, from the lowest foot up to the greatest head.
func rows(treads []stretch, feet, heads []int, height int) []Row {
	var l []Row
	top := slices.Max(heads)
	for low := slices.Min(feet); low+height <= top; low += height {
		high := low + height
		has := func(tread int) bool { return feet[tread] <= low && heads[tread] >= high }
		if b := bays(treads, has); len(b) > 0 {
			l = append(l, Row{low, high, b})
		}
	}
	return l
}

// bays returns the parts, as long as possible, of which all treads have something.
func bays(treads []stretch, has func(tread int) bool) []Bay {
	var l []Bay
	for i, t := range treads {
		if !has(i) {
			continue
		}
		if last := len(l) - 1; last >= 0 && l[last].To == t.from {
			l[last].To = t.to
		} else {
			l = append(l, Bay{t.from, t.to})
		}
	}
	return l
}
