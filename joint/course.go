package joint

import "copestone/place"

// courses returns that of each stone of the wall; 0 for those of the other skin.
func (s survey) courses() []int {
	l := make([]int, len(s.extents))
	// No stone lies on itself, by whatever way: they are convex, and do not get
	// into each other.
	var course func(i int) int
	course = func(i int) int {
		if l[i] == 0 {
			below := 0
			for _, j := range s.carriers(i) {
				below = max(below, course(j))
			}
			l[i] = below + 1
		}
		return l[i]
	}
	for _, i := range s.stones {
		course(i)
	}
	return l
}

// carriers returns the stones of the skin on which the stone i has a bed. The
// wall that place sees has only those that may carry it: it looks at all stones
// of a wall, each time.
func (s survey) carriers(i int) []int {
	near := place.Wall{Ground: s.wall.Ground, Stones: []place.Placed{s.wall.Stones[i]}}
	numbers := []int{i}
	for _, j := range s.stones {
		if j != i && s.mayCarry(j, i) {
			near.Stones = append(near.Stones, s.wall.Stones[j])
			numbers = append(numbers, j)
		}
	}
	var l []int
	beds, _ := place.Beds(near, 0, s.Pin)
	for _, bed := range beds {
		if bed.By >= 0 { // not the ground
			l = append(l, numbers[bed.By])
		}
	}
	return l
}

// mayCarry tells whether a bed of the stone i on the stone j is not out of the
// question.
func (s survey) mayCarry(j, i int) bool {
	a, b := s.extents[i], s.extents[j]
	return a.x.overlaps(b.x) && a.z.from <= b.z.to+s.Pin && b.z.from < a.z.to
}

// levels returns the greatest top of the stones of each course.
func (s survey) levels(courses []int) map[int]int {
	l := map[int]int{}
	for _, i := range s.stones {
		top := s.extents[i].z.to
		if level, found := l[courses[i]]; !found || top > level {
			l[courses[i]] = top
		}
	}
	return l
}
