package field_test

import (
	"math/big"
	"slices"

	"copestone/plan"
)

// isNamed is the rule for names of chapter 6.
func isNamed(name string) bool {
	for _, c := range name {
		if !slices.Contains([]rune("abcdefghijklmnopqrstuvwxyz0123456789"), c) {
			return false
		}
	}
	return len(name) > 0 && len(name) <= 16
}

func inRange(n, least, most int) bool { return n >= least && n <= most }

// isValid follows the words for a map and an animal, with a valid plan.
func isValid(p drawing, m chart, a animal) bool {
	valid := len(m.Cells) >= 1 && len(m.Cells) <= 40 && len(m.Borders) <= 80
	for i, name := range m.Cells {
		valid = valid && isNamed(name) && slices.Index(m.Cells, name) == i
	}
	for _, b := range m.Borders {
		valid = valid && inRange(b.A, 0, len(m.Cells)-1) && inRange(b.B, 0, len(m.Cells)-1) && b.A != b.B
		valid = valid && inRange(b.GroundA, -3000, 3000) && inRange(b.GroundB, -3000, 3000)
		there := false
		for _, w := range p.Walls {
			there = there || w.Name == b.Wall
		}
		valid = valid && there
	}
	for _, n := range []int{a.Wide, a.High, a.Step, a.Leap, a.Reach} {
		valid = valid && inRange(n, 0, 10000)
	}
	return valid
}

// sited returns the border's wall and its sheet.
func sited(p drawing, b border) (wall, sheet) {
	for _, w := range p.Walls {
		for _, s := range p.Sheets {
			if w.Name == b.Wall && s.Name == w.Sheet {
				return w, s
			}
		}
	}
	return wall{}, sheet{}
}

func widthAt(s sheet, z int) int { return s.Base - 2*(s.Batter*z/1000) }

// A crossing is a way across by its number, with its effort.
type crossing struct{ number, effort int }

// waysOf returns all ways across a border, over the wall at last.
func waysOf(p drawing, b border, a animal, back bool) []crossing {
	w, s := sited(p, b)
	g, h := b.GroundA, b.GroundB
	if back {
		g, h = h, g
	}
	var l []crossing
	for i, o := range w.Openings {
		if a.Wide > o.Width {
			continue
		}
		switch o.Kind {
		case plan.Smoot, plan.Lunky:
			floor := o.From
			if g > floor {
				floor = g
			}
			if h > floor {
				floor = h
			}
			if o.From-g <= a.Step && o.From+o.High-floor >= a.High {
				l = append(l, crossing{i, o.From - g})
			}
		case plan.Stile:
			if o.From-g <= a.Leap && widthAt(s, o.From) <= a.Reach {
				l = append(l, crossing{i, o.From - g})
			}
		case plan.Gate:
			if !b.Shut {
				l = append(l, crossing{i, 0})
			}
		}
	}
	top := s.Height + s.Tall
	if top-g <= a.Leap && widthAt(s, s.Height) <= a.Reach {
		l = append(l, crossing{-1, top - g})
	}
	for i := range l {
		if l[i].effort < 0 {
			l[i].effort = 0
		}
		l[i].effort++
	}
	return l
}

// bestOf returns the best way of a list: openings come first in it.
func bestOf(l []crossing) (crossing, bool) {
	for effort := 1; effort <= 20000; effort++ {
		for _, c := range l {
			if c.effort == effort {
				return c, true
			}
		}
	}
	return crossing{}, false
}

// An arc is the best way across a border from one of its sides.
type arc struct{ border, from, to, number, effort int }

func arcs(p drawing, m chart, a animal) []arc {
	var l []arc
	for i, b := range m.Borders {
		if c, ok := bestOf(waysOf(p, b, a, false)); ok {
			l = append(l, arc{i, b.A, b.B, c.number, c.effort})
		}
		if c, ok := bestOf(waysOf(p, b, a, true)); ok {
			l = append(l, arc{i, b.B, b.A, c.number, c.effort})
		}
	}
	return l
}

// reachedBy goes all arcs again and again.
func reachedBy(l []arc, cells, from int) []int {
	in := make([]bool, cells)
	in[from] = true
	for range cells {
		for _, c := range l {
			in[c.to] = in[c.to] || in[c.from]
		}
	}
	var reached []int
	for cell, seen := range in {
		if seen {
			reached = append(reached, cell)
		}
	}
	return reached
}

// A route is a walk with the best ways.
type route struct {
	steps  []step
	effort int
}

func (r route) isLess(q route) bool {
	if r.effort != q.effort {
		return r.effort < q.effort
	}
	if len(r.steps) != len(q.steps) {
		return len(r.steps) < len(q.steps)
	}
	for i := range r.steps {
		if r.steps[i].Border != q.steps[i].Border {
			return r.steps[i].Border < q.steps[i].Border
		}
	}
	return false
}

// routes calls a function with all walks that come to no cell twice: others have a
// greater effort than a walk without the circle.
func routes(l []arc, from, to int, each func(r route)) {
	seen := map[int]bool{from: true}
	var walk func(cell int, r route)
	walk = func(cell int, r route) {
		if cell == to {
			each(r)
			return
		}
		for _, c := range l {
			if c.from == cell && !seen[c.to] {
				seen[c.to] = true
				walk(c.to, route{append(slices.Clone(r.steps), step{Border: c.border, Way: c.number}), r.effort + c.effort})
				delete(seen, c.to)
			}
		}
	}
	walk(from, route{})
}

// bestRoute is the least of all walks.
func bestRoute(l []arc, from, to int) (best route, ok bool) {
	routes(l, from, to, func(r route) {
		if !ok || r.isLess(best) {
			best, ok = r, true
		}
	})
	return best, ok
}

// proofOf is the proof that the chapter describes.
func proofOf(l []arc, cells, from int) []int {
	proof := make([]int, cells)
	most := 0
	for cell := range cells {
		proof[cell] = -1
		if r, ok := bestRoute(l, from, cell); ok {
			proof[cell] = r.effort
			most = max(most, r.effort)
		}
	}
	for cell := range cells {
		if proof[cell] < 0 {
			proof[cell] = most + 1
		}
	}
	return proof
}

// isWalk follows the words for a walk; it returns its effort as well.
func isWalk(p drawing, m chart, a animal, from, to int, l []step) (int, bool) {
	effort := 0
	for _, s := range l {
		if s.Border < 0 || s.Border >= len(m.Borders) {
			return 0, false
		}
		b := m.Borders[s.Border]
		if b.A != from && b.B != from {
			return 0, false
		}
		found := false
		for _, c := range waysOf(p, b, a, b.B == from) {
			if c.number == s.Way {
				found = true
				effort += c.effort
			}
		}
		if !found {
			return 0, false
		}
		from = b.A + b.B - from
	}
	return effort, from == to
}

// isProof follows the words for a proof of a walk with this effort.
func isProof(l []arc, cells, from, to, effort int, proof []int) bool {
	if len(proof) != cells || proof[from] != 0 || proof[to] != effort {
		return false
	}
	for _, c := range l {
		sum := new(big.Int).Add(big.NewInt(int64(proof[c.from])), big.NewInt(int64(c.effort)))
		if big.NewInt(int64(proof[c.to])).Cmp(sum) > 0 {
			return false
		}
	}
	return true
}

// rises tells whether a list is one of indexes below most.
func rises(l []int, most int) bool {
	for i, n := range l {
		if n < 0 || n >= most || i > 0 && n <= l[i-1] {
			return false
		}
	}
	return true
}

// isPen follows the words for a pen.
func isPen(l []arc, cells, cell int, pen []int) bool {
	if !rises(pen, cells) || !slices.Contains(pen, cell) {
		return false
	}
	for _, c := range l {
		if slices.Contains(pen, c.from) && !slices.Contains(pen, c.to) {
			return false
		}
	}
	return true
}

// open returns the arcs of borders that are not closed.
func open(l []arc, closed []int) []arc {
	return slices.DeleteFunc(slices.Clone(l), func(c arc) bool { return slices.Contains(closed, c.border) })
}

// isClosing follows the words for a closing.
func isClosing(l []arc, m chart, from, to int, closed []int) bool {
	return from != to && rises(closed, len(m.Borders)) && !slices.Contains(reachedBy(open(l, closed), len(m.Cells), from), to)
}

// fewest returns how many borders a least closing has: it closes all sets of them.
func fewest(l []arc, m chart, from, to int) int {
	least := len(m.Borders)
	for set := range 1 << len(m.Borders) {
		var closed []int
		for i := range m.Borders {
			if set>>i&1 == 1 {
				closed = append(closed, i)
			}
		}
		if len(closed) < least && isClosing(l, m, from, to, closed) {
			least = len(closed)
		}
	}
	return least
}

// isLeast follows the words for a proof that a closing is least.
func isLeast(p drawing, m chart, a animal, from, to int, closed []int, walks [][]step) bool {
	var used []int
	for _, w := range walks {
		if _, ok := isWalk(p, m, a, from, to, w); !ok {
			return false
		}
		for _, s := range w {
			used = append(used, s.Border)
		}
	}
	slices.Sort(used)
	return len(walks) == len(closed) && len(slices.Compact(slices.Clone(used))) == len(used)
}

// smootsOf follows the words for smoots.
func smootsOf(p drawing, m chart, a animal) (free, blocked []place) {
	for i, b := range m.Borders {
		w, _ := sited(p, b)
		for k, o := range w.Openings {
			if o.Kind != plan.Smoot {
				continue
			}
			sides := 0
			for _, back := range []bool{false, true} {
				for _, c := range waysOf(p, b, a, back) {
					if c.number == k {
						sides++
					}
				}
			}
			if sides == 2 {
				free = append(free, place{Border: i, Opening: k})
			} else {
				blocked = append(blocked, place{Border: i, Opening: k})
			}
		}
	}
	return free, blocked
}
