package build

import (
	"slices"

	"copestone/api"
	"copestone/place"
	"copestone/plan"
)

// layer is a course of a yard: the width of the wall at its lower end, its bays,
// and the places of its throughs.
type layer struct {
	yard
	plan.Course
	width  int
	bays   []plan.Bay
	places []int
}

// layer wants the index of a course.
func (y yard) layer(i int) layer {
	l := layer{yard: y, Course: y.courses[i]}
	l.width, _ = plan.Width(y.sheet, l.From)
	l.bays, _ = plan.Bays(y.Plan, y.Wall, i)
	if course, places, _ := plan.Throughs(y.Plan, y.Wall); course == i {
		l.places = places
	}
	return l
}

// visit returns the layer with this index, and the errors of all calls with a
// wall and a course.
func visit(j Job, w place.Wall, course int) (layer, api.Errno) {
	y, e := enter(j)
	if e != api.OK {
		return layer{}, e
	}
	if e := place.Check(w); e != api.OK {
		return layer{}, e
	}
	if !within(course, 0, len(y.courses)-1) {
		return layer{}, api.ErrRange
	}
	return y.layer(course), api.OK
}

// body is a valid laid stone with the box around it.
type body struct {
	place.Placed
	left, right, bottom, top int
}

func bodyOf(p place.Placed) body {
	corners, _ := place.Corners(p)
	// A turned shape begins at 0 in both directions.
	b := body{p, p.At.X, p.At.X, p.At.Z, p.At.Z}
	for _, c := range corners {
		b.right, b.top = max(b.right, c.X), max(b.top, c.Z)
	}
	return b
}

func (b body) stretch() plan.Bay { return plan.Bay{From: b.left, To: b.right} }

// marks tells whether the stone is a through at this place.
func (b body) marks(x int) bool { return b.Skin == place.Through && within(x, b.left, b.right) }

// face returns the stones of the wall that are in the skin.
func (y yard) face(w place.Wall) []body {
	var l []body
	for _, p := range w.Stones {
		if p.Skin == y.Skin || p.Skin == place.Through {
			l = append(l, bodyOf(p))
		}
	}
	return l
}

// stones returns those of the wall that are in the course.
func (l layer) stones(w place.Wall) []body {
	return slices.DeleteFunc(l.face(w), func(b body) bool { return b.bottom >= l.To || b.top <= l.From })
}

// fits tells whether the bottom and the top of a stone are as those of the
// course ask.
func (l layer) fits(b body) bool {
	return within(b.bottom, l.From-l.Level, l.From) && within(b.top, l.To-l.Level, l.To)
}

// free returns what stones leave of the bays.
func (l layer) free(stones []body) []plan.Bay { return cut(l.bays, stones, body.stretch) }

// isTooWide tells whether a free part may not be left.
func (l layer) isTooWide(part plan.Bay) bool { return part.To-part.From > l.Wide }

// open returns the places of throughs at which there is none among the stones.
func (l layer) open(stones []body) []int {
	var places []int
	for _, p := range l.places {
		if !slices.ContainsFunc(stones, func(b body) bool { return b.marks(p) }) {
			places = append(places, p)
		}
	}
	return places
}

// cut returns what is left of parts, from left to right, when the stretches of
// things are taken away.
func cut[T any](parts []plan.Bay, things []T, stretch func(t T) plan.Bay) []plan.Bay {
	left := slices.Clone(parts)
	for _, t := range things {
		left = without(left, stretch(t))
	}
	return left
}

func without(parts []plan.Bay, away plan.Bay) []plan.Bay {
	var left []plan.Bay
	for _, p := range parts {
		before := plan.Bay{From: p.From, To: min(p.To, away.From)}
		behind := plan.Bay{From: max(p.From, away.To), To: p.To}
		for _, part := range [...]plan.Bay{before, behind} {
			if part.From < part.To {
				left = append(left, part)
			}
		}
	}
	return left
}
