package plan

import "slices"

func (b Bay) length() int64 { return int64(b.To - b.From) }

// has tells whether a place is strictly inside.
func (b Bay) has(place int) bool { return b.From < place && place < b.To }

// bays returns what the openings that reach into the course leave.
func (s site) bays(c Course) []Bay {
	return s.between(func(o Opening) bool { return o.reachesInto(c) })
}

// topBays returns what the openings that reach the top leave.
func (s site) topBays() []Bay {
	return s.between(func(o Opening) bool { return o.top() == s.sheet.Height })
}

// between returns what the openings of a sort leave of the wall's length.
func (s site) between(counts func(o Opening) bool) []Bay {
	var l []Opening
	for _, o := range s.wall.Openings {
		if counts(o) {
			l = append(l, o)
		}
	}
	return cut(Bay{0, s.wall.Length}, l, Opening.stretch)
}

// cut returns what is left of a bay when the stretches of things are taken away,
// from left to right.
func cut[T any](whole Bay, l []T, stretch func(t T) Bay) []Bay {
	left := []Bay{whole}
	for _, t := range l {
		left = without(left, stretch(t))
	}
	return left
}

func without(l []Bay, away Bay) []Bay {
	var left []Bay
	for _, b := range l {
		before := Bay{b.From, min(b.To, away.From)}
		behind := Bay{max(b.From, away.To), b.To}
		for _, part := range [...]Bay{before, behind} {
			if part.From < part.To {
				left = append(left, part)
			}
		}
	}
	return left
}

// throughs returns the index of their course, and their places.
func (s site) throughs() (course int, places []int) {
	if s.sheet.Every == 0 {
		return none, nil
	}
	courses := s.sheet.courses()
	course = slices.IndexFunc(courses, func(c Course) bool { return c.From >= s.sheet.At })
	if course == none {
		return none, nil
	}
	bays := s.bays(courses[course])
	for place := s.sheet.Every / 2; place < s.wall.Length; place += s.sheet.Every {
		if slices.ContainsFunc(bays, func(b Bay) bool { return b.has(place) }) {
			places = append(places, place)
		}
	}
	return course, places
}

func (c Cope) area() int64 { return int64(c.Width) * int64(c.High) }

func (s site) copes() []Cope {
	if s.sheet.Cope == None {
		return nil
	}
	var l []Cope
	for _, b := range s.topBays() {
		high, next := s.sheet.Tall, s.sheet.Tall
		if s.sheet.Cope == Buck {
			next = s.sheet.Short
		}
		for at := b.From; at < b.To; at += s.sheet.Thick {
			l = append(l, Cope{at, min(s.sheet.Thick, b.To-at), high})
			high, next = next, high
		}
	}
	return l
}

func (s site) quantities() Quantities {
	_, places := s.throughs()
	copes := s.copes()
	q := Quantities{
		Foot:     int64(s.wall.Length) * int64(s.sheet.Footing) * int64(s.sheet.Base+2*s.sheet.Spread),
		Top:      sum(copes, Cope.area) * int64(s.sheet.widthAt(s.sheet.Height)),
		Throughs: len(places),
		Copes:    len(copes),
		Roods:    100 * s.wall.Length / s.sheet.Rood,
	}
	for _, c := range s.sheet.courses() {
		area := sum(s.bays(c), Bay.length) * int64(c.To-c.From)
		width := s.sheet.widthAt(c.From)
		skins := min(2*s.sheet.Skin, width)
		q.Face += area * int64(skins)
		q.Hearting += area * int64(width-skins)
	}
	return q
}

func sum[T any](l []T, size func(t T) int64) int64 {
	var n int64
	for _, t := range l {
		n += size(t)
	}
	return n
}
