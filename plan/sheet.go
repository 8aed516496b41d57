package plan

import "copestone/api"

// Limits of a sheet's numbers.
const (
	maxBase     = 3000
	maxBatter   = 500
	maxSkin     = 1500
	maxHeights  = 12
	maxPart     = 1000 // a height, or a length, of a part of the wall
	maxLap      = 500
	maxRun      = 20
	maxFriction = 2000
)

func within[N int | uint8](n, least, most N) bool { return least <= n && n <= most }

func isName(name string) bool {
	if !within(len(name), 1, api.MaxName) {
		return false
	}
	for _, c := range []byte(name) {
		if (c < 'a' || c > 'z') && (c < '0' || c > '9') {
			return false
		}
	}
	return true
}

func (s Sheet) name() string { return s.Name }

// isSound asks for the width and the courses last: they want sound numbers.
func (s Sheet) isSound() bool {
	return isName(s.Name) &&
		within(s.Base, 1, maxBase) && within(s.Batter, 0, maxBatter) &&
		within(s.Height, 1, api.MaxHigh) && within(s.Skin, 1, maxSkin) &&
		s.hasSoundHeights() && within(s.Lap, 0, maxLap) && within(s.Run, 1, maxRun) && s.hasSoundThroughs() &&
		within(s.Footing, 0, maxPart) && within(s.Spread, 0, maxPart) && s.hasSoundCope() &&
		within(s.Low, 0, s.High) && within(s.High, 0, maxFriction) && within(s.Rood, 1, api.MaxFar) &&
		s.widthAt(s.Height) >= 1 && len(s.courses()) <= api.MaxCourses
}

func (s Sheet) hasSoundHeights() bool {
	if !within(len(s.Heights), 1, maxHeights) {
		return false
	}
	for _, high := range s.Heights {
		if !within(high, 1, maxPart) {
			return false
		}
	}
	return within(s.Least, 1, maxPart)
}

func (s Sheet) hasSoundThroughs() bool {
	if s.Every == 0 {
		return s.At == 0
	}
	return within(s.Every, 1, api.MaxFar) && within(s.At, 0, api.MaxHigh)
}

func (s Sheet) hasSoundCope() bool {
	switch s.Cope {
	case None:
		return s.Tall == 0 && s.Short == 0 && s.Thick == 0
	case Flat, Upright:
		return within(s.Tall, 1, maxPart) && s.Short == 0 && within(s.Thick, 1, maxPart)
	case Buck:
		return within(s.Tall, 1, maxPart) && within(s.Short, 1, maxPart) && within(s.Thick, 1, maxPart)
	}
	return false
}

// widthAt wants a height from 0 on.
func (s Sheet) widthAt(z int) int { return s.Base - 2*(s.Batter*z/1000) }

// courses wants a sound Height, and sound heights.
func (s Sheet) courses() []Course {
	var l []Course
	z := 0
	for i := 0; ; i++ {
		high := s.Heights[min(i, len(s.Heights)-1)]
		if z+high > s.Height {
			break
		}
		l = append(l, Course{z, z + high})
		z += high
	}
	switch rest := s.Height - z; {
	case rest == 0:
	case rest >= s.Least || len(l) == 0:
		l = append(l, Course{z, s.Height})
	default:
		l[len(l)-1].To = s.Height
	}
	return l
}
