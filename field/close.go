package field

// flow is walks that have no border in common: it has, for each border that is
// used, the cell from which it is crossed.
type flow struct {
	land
	used map[int]int
}

// leads tells whether a further walk may cross a border from this side: it may, if
// the animal has a way and no walk uses the border, or if a walk comes from the
// other side; both walks then change places, and the border is used no more.
func (f flow) leads(s side) bool {
	cell, ok := f.used[s.border]
	if ok {
		return cell == s.to
	}
	return s.isOpen()
}

// cross uses a border, or uses it no more.
func (f flow) cross(s side) {
	if _, ok := f.used[s.border]; ok {
		delete(f.used, s.border)
		return
	}
	f.used[s.border] = s.from
}

// widen adds a walk to the flow; it returns false if there is none.
func (f flow) widen(from, to int) bool {
	var seen cells
	var visit func(cell int) bool
	visit = func(cell int) bool {
		seen[cell] = true
		if cell == to {
			return true
		}
		for s := range f.sides() {
			if s.from == cell && !seen[s.to] && f.leads(s) && visit(s.to) {
				f.cross(s)
				return true
			}
		}
		return false
	}
	return visit(from)
}

// walks takes the flow apart. What comes into a cell leaves it again, so that each
// walk gets to its end.
func (f flow) walks(from, to int) [][]Step {
	var l [][]Step
	var walk []Step
	cell := from
steps:
	for {
		for s := range f.crossings() {
			if start, ok := f.used[s.border]; !ok || start != cell || s.from != cell {
				continue
			}
			delete(f.used, s.border)
			walk = append(walk, Step{s.border, s.best().number})
			cell = s.to
			if cell == to {
				l = append(l, walk)
				walk, cell = nil, from
			}
			continue steps
		}
		return l
	}
}

// closing returns the borders that lead out of all that one more walk would reach,
// when there is none: each of them is used by another walk, and so they are as few
// as there are walks.
func (l land) closing(from, to int) (borders []int, walks [][]Step) {
	f := flow{l, map[int]int{}}
	for f.widen(from, to) {
	}
	seen := f.spread(from, f.leads)
	for s := range f.crossings() {
		if seen[s.from] && !seen[s.to] {
			borders = append(borders, s.border)
		}
	}
	return borders, f.walks(from, to)
}

// areApart tells whether all of these are walks, and no border is used twice.
func (l land) areApart(from, to int, walks [][]Step) bool {
	used := map[int]bool{}
	for _, walk := range walks {
		if _, ok := l.follow(from, to, walk); !ok {
			return false
		}
		for _, step := range walk {
			if used[step.Border] {
				return false
			}
			used[step.Border] = true
		}
	}
	return true
}
