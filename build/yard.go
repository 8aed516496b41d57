package build

import (
	"slices"

	"copestone/api"
	"copestone/joint"
	"copestone/place"
	"copestone/plan"
	"copestone/stone"
	"copestone/thrust"
	"copestone/whole"
)

// yard is a valid job with what its plan says of the wall.
type yard struct {
	Job
	length  int
	sheet   plan.Sheet
	courses []plan.Course
}

func within(n, least, most int) bool { return least <= n && n <= most }

// enter returns ErrArg if the job is not valid.
func enter(j Job) (yard, api.Errno) {
	wall, sheet, e := plan.Find(j.Plan, j.Wall)
	if e != api.OK || !j.isSound() {
		return yard{}, api.ErrArg
	}
	courses, _ := plan.Courses(sheet)
	if slices.ContainsFunc(courses, func(c plan.Course) bool { return j.Level >= c.To-c.From }) {
		return yard{}, api.ErrArg
	}
	return yard{j, wall.Length, sheet, courses}, api.OK
}

// isSound tells whether all of a job is as it should be, but for its plan, and
// what follows from it.
func (j Job) isSound() bool {
	if j.Skin != place.Front && j.Skin != place.Back || !within(j.Pin, 0, api.MaxPin) {
		return false
	}
	for _, length := range [...]int{j.Wide, j.Step, j.Level} {
		if !within(length, 0, api.MaxLength) {
			return false
		}
	}
	return len(j.Heap) <= api.MaxJob && stone.CheckHeap(j.Heap) == api.OK
}

// ask returns the answer of a yard, if the job is valid.
func ask[A any](j Job, answer func(y yard) A) (A, api.Errno) {
	y, e := enter(j)
	if e != api.OK {
		var none A
		return none, e
	}
	return answer(y), api.OK
}

func (y yard) rules() joint.Rules {
	return joint.Rules{
		Skin: y.Skin, Pin: y.Pin, Wide: y.Wide, Step: y.Step, Level: y.Level,
		Lap: y.sheet.Lap, Run: y.run(),
	}
}

// run returns the height of the highest courses, one upon the other, through
// which a joint may run.
func (y yard) run() int {
	last := min(y.sheet.Run, len(y.courses)) - 1
	highest := 0
	for i, c := range y.courses[last:] {
		highest = max(highest, c.To-y.courses[i].From)
	}
	return highest
}

func (y yard) caseOf(w place.Wall) thrust.Case {
	return thrust.Case{Wall: w, Skin: y.Skin, Pin: y.Pin, Low: thousandths(y.sheet.Low), High: thousandths(y.sheet.High)}
}

func thousandths(n int) whole.R {
	r, _ := whole.Ratio(int64(n), 1000)
	return r
}

func (y yard) ground() []stone.Point { return []stone.Point{{X: 0}, {X: y.length}} }

func (y yard) start() place.Wall { return place.Wall{Ground: y.ground()} }

// turned returns the yard of the job with the other skin.
func (y yard) turned() yard {
	y.Skin = place.Front + place.Back - y.Skin
	return y
}

// isBonded tells whether no joint of the skin runs too high, and no stone of it
// reaches too little over a joint.
func (y yard) isBonded(w place.Wall) bool {
	l, e := joint.Survey(w, y.rules())
	return e == api.OK && !slices.ContainsFunc(l, func(f joint.Finding) bool {
		return f.Kind == joint.Runs || f.Kind == joint.Short
	})
}

func (y yard) stands(w place.Wall) bool {
	_, _, e := thrust.Stand(y.caseOf(w))
	return e == api.OK
}

func (y yard) account(w place.Wall) Account {
	var a Account
	for _, s := range y.Heap {
		weight, _ := stone.Weight(s)
		a.Heap += weight
		if has(w, s.Name) {
			a.Used += weight
		} else {
			a.Left += weight
		}
	}
	return a
}

// has tells whether a stone of the wall has this name.
func has(w place.Wall, name string) bool {
	return slices.ContainsFunc(w.Stones, func(p place.Placed) bool { return p.Stone.Name == name })
}

// copied returns a wall that shares no list with another one, but the shapes of
// stones.
func copied(w place.Wall) place.Wall {
	return place.Wall{Ground: slices.Clone(w.Ground), Stones: slices.Clone(w.Stones)}
}
