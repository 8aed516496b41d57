package joint

import (
	"slices"

	"copestone/api"
	"copestone/place"
)

// survey is a valid wall that is looked at by valid rules.
type survey struct {
	Rules
	wall    place.Wall
	extents []extent // of all stones of the wall
	stones  []int    // those of the skin, rising
	joints  []Joint
}

// look returns the error of a wall or of rules that are not valid.
func look(w place.Wall, r Rules) (survey, api.Errno) {
	if e := place.Check(w); e != api.OK {
		return survey{}, e
	}
	if e := CheckRules(r); e != api.OK {
		return survey{}, e
	}
	s := survey{Rules: r, wall: w}
	for i, p := range w.Stones {
		s.extents = append(s.extents, extentOf(p))
		if p.Skin == s.Skin || p.Skin == place.Through {
			s.stones = append(s.stones, i)
		}
	}
	s.joints = s.findJoints()
	return s, api.OK
}

// ask returns the answer of a survey, if wall and rules are valid.
func ask[A any](w place.Wall, r Rules, answer func(s survey) A) (A, api.Errno) {
	s, e := look(w, r)
	if e != api.OK {
		var none A
		return none, e
	}
	return answer(s), api.OK
}

// findJoints returns the joints of the wall, in their order.
func (s survey) findJoints() []Joint {
	var l []Joint
	for _, a := range s.stones {
		for _, b := range s.stones {
			if j, found := s.between(a, b); found {
				l = append(l, j)
			}
		}
	}
	slices.SortFunc(l, byKeys(
		func(j Joint) int { return j.From },
		func(j Joint) int { return j.Left },
		func(j Joint) int { return j.A },
		func(j Joint) int { return j.B },
	))
	return l
}

// between returns the joint with the stone a at its left and b at its right;
// false, if there is none.
func (s survey) between(a, b int) (Joint, bool) {
	left, right := s.extents[a], s.extents[b]
	if !within(right.x.from-left.x.to, 0, s.Wide) || !left.z.overlaps(right.z) {
		return Joint{}, false
	}
	j := Joint{
		A: a, B: b,
		Left: left.x.to, Right: right.x.from,
		From: max(left.z.from, right.z.from), To: min(left.z.to, right.z.to),
	}
	return j, !s.isFilled(j)
}

// isFilled tells whether a stone is between those of the joint. They themselves
// only touch it.
func (s survey) isFilled(j Joint) bool {
	return slices.ContainsFunc(s.stones, func(i int) bool {
		return s.extents[i].x.overlaps(j.across()) && s.extents[i].z.overlaps(span{j.From, j.To})
	})
}

func (j Joint) across() span { return span{j.Left, j.Right} }
