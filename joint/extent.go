package joint

import (
	"cmp"
	"slices"

	"copestone/api"
	"copestone/place"
	"copestone/stone"
)

func within(n, least, most int) bool { return least <= n && n <= most }

// span is a range of lengths: of places, or of heights.
type span struct{ from, to int }

// overlaps tells whether there is more than a point in common.
func (a span) overlaps(b span) bool { return max(a.from, b.from) < min(a.to, b.to) }

// distance is 0 if there is a point in common.
func (a span) distance(b span) int { return max(0, a.from-b.to, b.from-a.to) }

func (a span) isSound() bool { return -api.MaxFar <= a.from && a.from < a.to && a.to <= api.MaxFar }

// extent is the box around a laid stone.
type extent struct{ x, z span }

// extentOf wants a valid laid stone.
func extentOf(p place.Placed) extent {
	corners, _ := place.Corners(p)
	return extent{
		x: spanOf(corners, func(c stone.Point) int { return c.X }),
		z: spanOf(corners, func(c stone.Point) int { return c.Z }),
	}
}

// spanOf returns the range of a number that things have; there is one at least.
func spanOf[T any](l []T, number func(t T) int) span {
	s := span{number(l[0]), number(l[0])}
	for _, t := range l[1:] {
		s = span{min(s.from, number(t)), max(s.to, number(t))}
	}
	return s
}

// byKeys compares by the first key that tells two things apart.
func byKeys[T any](keys ...func(t T) int) func(a, b T) int {
	return func(a, b T) int {
		for _, key := range keys {
			if c := cmp.Compare(key(a), key(b)); c != 0 {
				return c
			}
		}
		return 0
	}
}

// throughs returns the ranges of the throughs between two heights, from left to
// right.
func throughs(w place.Wall, heights span) []span {
	var l []span
	for _, p := range w.Stones {
		if a := extentOf(p); p.Skin == place.Through && a.z.overlaps(heights) {
			l = append(l, a.x)
		}
	}
	slices.SortFunc(l, byKeys(func(s span) int { return s.from }, func(s span) int { return s.to }))
	return l
}

// longestGap returns the length of the longest part of a stretch that ranges,
// sorted from left to right, leave.
func longestGap(l []span, stretch span) int {
	longest, end := 0, stretch.from
	for _, s := range l {
		longest = max(longest, min(s.from, stretch.to)-end)
		end = max(end, s.to)
	}
	return max(longest, stretch.to-end)
}
