package build_test

import (
	"reflect"
	"slices"

	"copestone/api"
	"copestone/build"
	"copestone/joint"
	"copestone/place"
	"copestone/plan"
	"copestone/stone"
	"copestone/thrust"
)

// frame is what is around a laid stone.
type frame struct{ left, right, bottom, top int }

func frameOf(p placed) frame {
	s, _ := stone.Turned(p.Stone, p.Way)
	wide, high, _ := stone.Extent(s)
	return frame{p.At.X, p.At.X + wide, p.At.Z, p.At.Z + high}
}

// overlap looks for a common stretch of the length 1.
func overlap(from, to, low, high int) bool {
	for z := from; z < to; z++ {
		if low <= z && z+1 <= high {
			return true
		}
	}
	return false
}

// covers tells whether the stone is where the wall goes from x to x + 1.
func (f frame) covers(x int) bool { return f.left <= x && x+1 <= f.right }

func (f frame) isIn(c plan.Course) bool { return overlap(f.bottom, f.top, c.From, c.To) }

// is tells whether bottom and top are as said for the course.
func (f frame) is(c plan.Course, level int) bool {
	return c.From-level <= f.bottom && f.bottom <= c.From && c.To-level <= f.top && f.top <= c.To
}

func inSkin(j job, p placed) bool { return p.Skin == j.Skin || p.Skin == place.Through }

func sheetOf(j job) sheet {
	_, s, _ := plan.Find(j.Plan, j.Wall)
	return s
}

func coursesOf(j job) []plan.Course {
	l, _ := plan.Courses(sheetOf(j))
	return l
}

func widthOf(j job, c plan.Course) int {
	n, _ := plan.Width(sheetOf(j), c.From)
	return n
}

// partsOf returns what stones leave of the bays of a course.
func partsOf(j job, course int, frames []frame) []bay {
	bays, _ := plan.Bays(j.Plan, j.Wall, course)
	var l []bay
	for _, b := range bays {
		from := b.From
		for x := b.From; x <= b.To; x++ {
			if x < b.To && !slices.ContainsFunc(frames, func(f frame) bool { return f.covers(x) }) {
				continue
			}
			if from < x {
				l = append(l, bay{From: from, To: x})
			}
			from = x + 1
		}
	}
	return l
}

func freeOf(j job, w wall, course int) []bay {
	var frames []frame
	for _, p := range w.Stones {
		if f := frameOf(p); inSkin(j, p) && f.isIn(coursesOf(j)[course]) {
			frames = append(frames, f)
		}
	}
	return partsOf(j, course, frames)
}

// openOf returns the open throughs; which stones count is told by a function.
func openOf(j job, w wall, course int, counts func(f frame) bool) []int {
	in, places, _ := plan.Throughs(j.Plan, j.Wall)
	var l []int
	for _, x := range places {
		found := in != course
		for _, p := range w.Stones {
			f := frameOf(p)
			found = found || p.Skin == place.Through && counts(f) && f.left <= x && x <= f.right
		}
		if !found {
			l = append(l, x)
		}
	}
	return l
}

func openIn(j job, w wall, course int) []int {
	return openOf(j, w, course, func(f frame) bool { return f.isIn(coursesOf(j)[course]) })
}

// bonds asks for all that is wrong, by the package's own rules.
func bonds(j job, w wall) bool {
	r, _ := build.Rules(j)
	l, e := joint.Survey(w, r)
	for _, f := range l {
		if f.Kind == joint.Runs || f.Kind == joint.Short {
			return false
		}
	}
	return e == api.OK
}

func standsUp(j job, w wall) bool {
	c, _ := build.Case(j, w)
	_, _, e := thrust.Stand(c)
	return e == api.OK
}

// filler fills a course by the words of the chapter.
type filler struct {
	job
	course int
	plan.Course
	tries int
	over  bool
}

func isUsed(w wall, name string) bool {
	for _, p := range w.Stones {
		if p.Stone.Name == name {
			return true
		}
	}
	return false
}

// repeats tells whether a way makes a stone equal to itself in an earlier way.
func repeats(s rock, way int) bool {
	now, _ := stone.Turned(s, way)
	for earlier := range way {
		then, _ := stone.Turned(s, earlier)
		if reflect.DeepEqual(now.Shape, then.Shape) {
			return true
		}
	}
	return false
}

// laid returns the wall with a stone in a way at x; whether that is a try, and
// whether it can be laid.
func (f *filler) laid(w wall, s rock, way, x, end int) (next wall, try, can bool) {
	t, _ := stone.Turned(s, way)
	wide, high, _ := stone.Extent(t)
	tall := f.To - f.From
	if x+wide > end || high < tall-f.Level || high > tall+f.Level {
		return w, false, false
	}
	p := placed{Stone: s, Way: way, At: at(x, f.To), Skin: f.Skin}
	for _, open := range openIn(f.job, w, f.course) {
		if x <= open && open <= x+wide {
			p.Skin = place.Through
		}
	}
	width := widthOf(f.job, f.Course)
	if p.Skin == place.Through && s.Depth < width || p.Skin != place.Through && s.Depth > width {
		return w, false, false
	}
	down, e := place.Drop(w, p)
	p.At.Z -= down
	next = wall{Ground: w.Ground, Stones: append(slices.Clone(w.Stones), p)}
	return next, true, e == api.OK && frameOf(p).is(f.Course, f.Level) && bonds(f.job, next)
}

// from fills the parts from x on, which lies in the first one of them.
func (f *filler) from(w wall, parts []bay, x int) (wall, bool) {
	if len(parts) == 0 {
		return w, len(openIn(f.job, w, f.course)) == 0 && bonds(f.job, w) && standsUp(f.job, w)
	}
	end := parts[0].To
	if end-x <= f.Wide {
		if len(parts) == 1 {
			return f.from(w, nil, 0)
		}
		return f.from(w, parts[1:], parts[1].From)
	}
	for _, s := range f.Heap {
		for way := range 8 {
			if isUsed(w, s.Name) || repeats(s, way) {
				continue
			}
			next, try, can := f.laid(w, s, way, x, end)
			if !try {
				continue
			}
			if f.tries++; f.tries > 400 {
				f.over = true
				return wall{}, false
			}
			if !can {
				continue
			}
			last := next.Stones[len(next.Stones)-1]
			if filled, done := f.from(next, parts, frameOf(last).right); done || f.over {
				return filled, done
			}
		}
	}
	return wall{}, false
}

func fillOf(j job, w wall, course int) (wall, int, api.Errno) {
	f := filler{job: j, course: course, Course: coursesOf(j)[course]}
	parts := freeOf(j, w, course)
	x := 0
	if len(parts) > 0 {
		x = parts[0].From
	}
	next, done := f.from(w, parts, x)
	switch {
	case f.over:
		return wall{}, 0, api.ErrLimit
	case !done:
		return wall{}, 0, api.ErrVoid
	}
	return next, f.tries, api.OK
}

// buildOf fills course after course.
func buildOf(j job, both bool) (w wall, courses int, why api.Errno) {
	w = wall{Ground: path(0, 0, j.Plan.Walls[0].Length, 0)}
	for course := range coursesOf(j) {
		next, _, e := fillOf(j, w, course)
		if both && e == api.OK {
			other := j
			other.Skin = 3 - j.Skin
			next, _, e = fillOf(other, next, course)
		}
		if e != api.OK {
			return w, course, e
		}
		w = next
	}
	return w, len(coursesOf(j)), api.OK
}

// isBuilt follows the words of the definition, one after the other; the job is
// valid, and the courses are there.
func isBuilt(j job, w wall, courses int) bool {
	if !reflect.DeepEqual(w.Ground, path(0, 0, j.Plan.Walls[0].Length, 0)) || place.Check(w) != api.OK {
		return false
	}
	found := 0
	for _, p := range w.Stones {
		for _, s := range j.Heap {
			if reflect.DeepEqual(p.Stone, s) {
				found++
			}
		}
	}
	if found != len(w.Stones) {
		return false
	}
	for _, p := range w.Stones {
		if inSkin(j, p) && !isPartOf(j, p, courses) {
			return false
		}
	}
	for course := range courses {
		if !isFull(j, w, course) {
			return false
		}
	}
	return bonds(j, w) && standsUp(j, w)
}

func isPartOf(j job, p placed, courses int) bool {
	f := frameOf(p)
	for course, c := range coursesOf(j)[:courses] {
		if !f.is(c, j.Level) {
			continue
		}
		bays, _ := plan.Bays(j.Plan, j.Wall, course)
		inBay := slices.ContainsFunc(bays, func(b bay) bool { return b.From <= f.left && f.right <= b.To })
		width := widthOf(j, c)
		if p.Skin == place.Through {
			return inBay && p.Stone.Depth >= width
		}
		return inBay && p.Stone.Depth <= width
	}
	return false
}

func isFull(j job, w wall, course int) bool {
	var frames []frame
	its := func(f frame) bool { return f.is(coursesOf(j)[course], j.Level) }
	for _, p := range w.Stones {
		if f := frameOf(p); inSkin(j, p) && its(f) {
			frames = append(frames, f)
		}
	}
	for _, part := range partsOf(j, course, frames) {
		if part.To-part.From > j.Wide {
			return false
		}
	}
	return len(openOf(j, w, course, its)) == 0
}
