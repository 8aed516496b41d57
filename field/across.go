package field

import (
	"cmp"
	"iter"
	"slices"

	"copestone/plan"
)

// passage is a way across a border from one of its sides.
type passage struct{ number, effort int }

// front is a wall as it is before an animal: the ground on which it stands, and
// the ground behind the wall.
type front struct {
	Animal
	wall           plan.Wall
	sheet          plan.Sheet
	ground, behind int
	shut           bool
}

// passages yields the ways across: the openings come before the wall itself, so
// that the first one with the least effort is the best one.
func (f front) passages() iter.Seq[passage] {
	return func(yield func(p passage) bool) {
		for i, o := range f.wall.Openings {
			if rise, ok := f.through(o); ok && !yield(passage{i, effortOf(rise)}) {
				return
			}
		}
		if rise, ok := f.upAndOver(); ok {
			yield(passage{over, effortOf(rise)})
		}
	}
}

// effortOf is never 0, so that no walk goes round in circles for nothing.
func effortOf(rise int) int { return max(rise, 0) + 1 }

// through returns how far up the opening is, and whether the animal gets through.
func (f front) through(o plan.Opening) (rise int, ok bool) {
	rise = o.From - f.ground
	switch o.Kind {
	case plan.Smoot, plan.Lunky:
		ok = rise <= f.Step && o.From+o.High-max(o.From, f.ground, f.behind) >= f.High
	case plan.Stile:
		ok = f.leaps(rise, o.From)
	case plan.Gate:
		rise, ok = 0, !f.shut
	}
	return rise, ok && f.Wide <= o.Width
}

// upAndOver returns how far up the wall's top is, and whether the animal leaps it.
func (f front) upAndOver() (rise int, ok bool) {
	rise = f.sheet.Height + f.sheet.Tall - f.ground
	return rise, f.leaps(rise, f.sheet.Height)
}

// leaps wants the rise of a leap, and the height at which the wall's width counts.
func (f front) leaps(rise, z int) bool {
	width, _ := plan.Width(f.sheet, z)
	return rise <= f.Leap && width <= f.Reach
}

// side is a border as it is crossed from one of its cells to the other one.
type side struct {
	border, from, to int
	ways             []passage
}

func (s side) isOpen() bool { return len(s.ways) > 0 }

// best wants a side that is open.
func (s side) best() passage {
	return slices.MinFunc(s.ways, func(p, q passage) int { return cmp.Compare(p.effort, q.effort) })
}

// by returns the way with this number.
func (s side) by(number int) (passage, bool) {
	i := slices.IndexFunc(s.ways, func(p passage) bool { return p.number == number })
	if i < 0 {
		return passage{}, false
	}
	return s.ways[i], true
}

// fence is a border with its openings, and with what an animal finds on its sides.
type fence struct {
	openings     []plan.Opening
	fromA, fromB side
}

// fence wants a border of a valid map.
func (b Border) fence(p plan.Plan, a Animal, index int) fence {
	wall, sheet, _ := plan.Find(p, b.Wall)
	here := front{a, wall, sheet, b.GroundA, b.GroundB, b.Shut}
	there := front{a, wall, sheet, b.GroundB, b.GroundA, b.Shut}
	return fence{
		openings: wall.Openings,
		fromA:    side{index, b.A, b.B, slices.Collect(here.passages())},
		fromB:    side{index, b.B, b.A, slices.Collect(there.passages())},
	}
}

// isFree tells whether the way with this number leads across from both sides.
func (f fence) isFree(number int) bool {
	_, out := f.fromA.by(number)
	_, back := f.fromB.by(number)
	return [...]bool{out, back} == [...]bool{true, true}
}
