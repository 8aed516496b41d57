package field

import (
	"slices"

	"copestone/api"
	"copestone/plan"
)

func within(n, least, most int) bool { return least <= n && n <= most }

// isName is the rule for names of package plan, which has no function for it.
func isName(name string) bool {
	for _, c := range []byte(name) {
		if (c < 'a' || 'z' < c) && (c < '0' || '9' < c) {
			return false
		}
	}
	return within(len(name), 1, api.MaxName)
}

// isRising tells whether the numbers rise, and are indexes of a list so long.
func isRising(l []int, long int) bool {
	least := 0
	for _, n := range l {
		if !within(n, least, long-1) {
			return false
		}
		least = n + 1
	}
	return true
}

func (a Animal) isSound() bool {
	for _, n := range [...]int{a.Wide, a.High, a.Step, a.Leap, a.Reach} {
		if !within(n, 0, maxAnimal) {
			return false
		}
	}
	return true
}

// isSound wants a valid plan.
func (m Map) isSound(p plan.Plan) bool {
	if !within(len(m.Cells), 1, api.MaxCells) || len(m.Borders) > api.MaxBorders {
		return false
	}
	for i, name := range m.Cells {
		if !isName(name) || slices.Contains(m.Cells[:i], name) {
			return false
		}
	}
	for _, b := range m.Borders {
		if !m.has(b.A, b.B) || b.A == b.B || !b.isOn(p) {
			return false
		}
	}
	return true
}

// has tells whether all cells with these indexes are there.
func (m Map) has(cells ...int) bool {
	for _, c := range cells {
		if !within(c, 0, len(m.Cells)-1) {
			return false
		}
	}
	return true
}

// isOn tells whether the grounds are right, and the plan has the wall.
func (b Border) isOn(p plan.Plan) bool {
	if !within(b.GroundA, -api.MaxHigh, api.MaxHigh) || !within(b.GroundB, -api.MaxHigh, api.MaxHigh) {
		return false
	}
	return slices.ContainsFunc(p.Walls, func(w plan.Wall) bool { return w.Name == b.Wall })
}
