package joint

// none stands where a finding has no joint, or no stone.
const none = -1

// reporter is told what is wrong, one after the other.
type reporter func(at, stone, amount int)

// findings returns what is wrong, kind by kind.
func (s survey) findings() []Finding {
	var l []Finding
	for i, find := range [...]func(report reporter){s.runs, s.shorts, s.traces, s.hollows} {
		find(func(at, stone, amount int) {
			l = append(l, Finding{Runs + uint8(i), at, stone, amount})
		})
	}
	return l
}

// runs reports the joints that run too high.
func (s survey) runs(report reporter) {
	for k, height := range s.heights(s.roots()) {
		if height > s.Run {
			report(k, none, height)
		}
	}
}

// shorts reports the stones that do not reach far enough over a joint.
func (s survey) shorts(report reporter) {
	for k, joint := range s.joints {
		for _, i := range s.stones {
			if lap := s.lap(i, joint); s.liesOver(i, joint) && lap < s.Lap {
				report(k, i, lap)
			}
		}
	}
}

func (s survey) liesOver(i int, j Joint) bool {
	a := s.extents[i]
	return s.goesOn(j, a.z.from) && a.x.distance(j.across()) == 0
}

// lap is that of a stone that lies over the joint.
func (s survey) lap(i int, j Joint) int {
	x := s.extents[i].x
	return min(j.Left-x.from, x.to-j.Right)
}

// traces reports the stones that lie along the wall instead of into it.
func (s survey) traces(report reporter) {
	for _, i := range s.stones {
		x := s.extents[i].x
		if over := x.to - x.from - s.wall.Stones[i].Stone.Depth; over > 0 {
			report(none, i, over)
		}
	}
}

// hollows reports the stones that are too far below the level of their course.
func (s survey) hollows(report reporter) {
	courses := s.courses()
	levels := s.levels(courses)
	for _, i := range s.stones {
		if below := levels[courses[i]] - s.extents[i].z.to; below > s.Level {
			report(none, i, below)
		}
	}
}
