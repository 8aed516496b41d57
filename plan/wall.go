package plan

import (
	"slices"

	"copestone/api"
)

// none is the index of what is not there.
const none = -1

// stretch is where the opening is along the wall.
func (o Opening) stretch() Bay { return Bay{o.At, o.At + o.Width} }

func (o Opening) top() int { return o.From + o.High }

// isSound compares what is left of the length, and of the height: a sum of any
// two numbers might overflow.
func (o Opening) isSound(length, height int) bool {
	return within(o.Kind, Smoot, Gate) &&
		within(o.At, 0, length) && within(o.Width, 1, length-o.At) &&
		within(o.From, 0, height) && within(o.High, 1, height-o.From) &&
		(o.Kind != Gate || o.From == 0) &&
		(o.Kind != Gate && o.Kind != Stile || o.top() == height)
}

func (o Opening) meets(p Opening) bool {
	a, b := o.stretch(), p.stretch()
	return max(a.From, b.From) < min(a.To, b.To) && max(o.From, p.From) < min(o.top(), p.top())
}

func (o Opening) reachesInto(c Course) bool { return o.From < c.To && o.top() > c.From }

func (w Wall) name() string { return w.Name }

// isSound wants the sheet that the wall names.
func (w Wall) isSound(s Sheet) bool {
	if !isName(w.Name) || !within(w.Length, 1, api.MaxFar) || len(w.Openings) > api.MaxOpenings {
		return false
	}
	for i, o := range w.Openings {
		if !o.isSound(w.Length, s.Height) || slices.ContainsFunc(w.Openings[:i], o.meets) {
			return false
		}
	}
	return true
}

func (p Plan) isSound() bool {
	if len(p.Sheets) > api.MaxSheets || len(p.Walls) > api.MaxWalls {
		return false
	}
	for i, s := range p.Sheets {
		if !s.isSound() || find(p.Sheets[:i], s.Name, Sheet.name) != none {
			return false
		}
	}
	for i, w := range p.Walls {
		sheet := find(p.Sheets, w.Sheet, Sheet.name)
		if sheet == none || !w.isSound(p.Sheets[sheet]) || find(p.Walls[:i], w.Name, Wall.name) != none {
			return false
		}
	}
	return true
}

// find returns the index of the thing with this name, or none.
func find[T any](l []T, name string, of func(t T) string) int {
	return slices.IndexFunc(l, func(t T) bool { return of(t) == name })
}

// site is a wall of a valid plan, with its sheet.
type site struct {
	wall  Wall
	sheet Sheet
}

// locate returns the site of the wall with this name.
func locate(p Plan, name string) (site, api.Errno) {
	if e := Check(p); e != api.OK {
		return site{}, e
	}
	i := find(p.Walls, name, Wall.name)
	if i == none {
		return site{}, api.ErrName
	}
	w := p.Walls[i]
	return site{w, p.Sheets[find(p.Sheets, w.Sheet, Sheet.name)]}, api.OK
}

// ask returns what is asked for of a wall.
func ask[T any](p Plan, name string, question func(s site) T) (answer T, e api.Errno) {
	s, e := locate(p, name)
	if e != api.OK {
		return answer, e
	}
	return question(s), api.OK
}
