package field

import (
	"iter"
	"slices"

	"copestone/api"
	"copestone/plan"
)

// land is a valid map with what an animal finds at its borders, of which some may
// be closed.
type land struct {
	Map
	fences []fence
	closed map[int]bool
}

// enter returns the land, if the arguments are valid and the map has the cells.
func enter(p plan.Plan, m Map, a Animal, cells ...int) (land, api.Errno) {
	if e := Check(p, m, a); e != api.OK {
		return land{}, e
	}
	if !m.has(cells...) {
		return land{}, api.ErrRange
	}
	l := land{Map: m}
	for i, b := range m.Borders {
		l.fences = append(l.fences, b.fence(p, a, i))
	}
	return l, api.OK
}

// without returns the land with these borders closed.
func (l land) without(borders []int) land {
	l.closed = map[int]bool{}
	for _, b := range borders {
		l.closed[b] = true
	}
	return l
}

// sides yields both sides of all borders that are not closed, by rising borders.
func (l land) sides() iter.Seq[side] {
	return func(yield func(s side) bool) {
		for i, f := range l.fences {
			if !l.closed[i] && (!yield(f.fromA) || !yield(f.fromB)) {
				return
			}
		}
	}
}

// crossings yields the sides from which the animal has a way across.
func (l land) crossings() iter.Seq[side] {
	return func(yield func(s side) bool) {
		for s := range l.sides() {
			if s.isOpen() && !yield(s) {
				return
			}
		}
	}
}

// cells has a flag for each cell.
type cells [api.MaxCells]bool

func (c cells) list() []int {
	var l []int
	for i, in := range c {
		if in {
			l = append(l, i)
		}
	}
	return l
}

// spread returns the cells to which the sides of a sort lead, one after the other.
func (l land) spread(from int, leads func(s side) bool) cells {
	var seen cells
	var visit func(cell int)
	visit = func(cell int) {
		seen[cell] = true
		for s := range l.sides() {
			if s.from == cell && !seen[s.to] && leads(s) {
				visit(s.to)
			}
		}
	}
	visit(from)
	return seen
}

func (l land) reach(from int) cells { return l.spread(from, side.isOpen) }

// isPen wants a list of cells.
func (l land) isPen(cell int, pen []int) bool {
	for s := range l.crossings() {
		if slices.Contains(pen, s.from) && !slices.Contains(pen, s.to) {
			return false
		}
	}
	return slices.Contains(pen, cell)
}

// smoots returns the free ones, and the others.
func (l land) smoots() (free, blocked []Place) {
	for border, f := range l.fences {
		for i, o := range f.openings {
			if o.Kind != plan.Smoot {
				continue
			}
			if f.isFree(i) {
				free = append(free, Place{border, i})
			} else {
				blocked = append(blocked, Place{border, i})
			}
		}
	}
	return free, blocked
}
