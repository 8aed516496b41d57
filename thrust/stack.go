package thrust

import (
	"iter"
	"slices"

	"copestone/api"
	"copestone/place"
	"copestone/stone"
	"copestone/whole"
)

// stack is a valid case with its stones, by their numbers in the wall; nil
// stands for a stone that is not there.
type stack struct {
	Case
	stones []*body
}

// body is a stone of a case: its weight and its loads, and its beds.
type body struct {
	own  sum
	beds []place.Bed
}

func (b *body) loaded(at, force whole.V) *body { return &body{b.own.with(at, force), b.beds} }

// isSound tells whether all of a case is as it should be, but for its wall and
// the number of its loads.
func (c Case) isSound() bool {
	if c.Skin != place.Front && c.Skin != place.Back || c.Pin < 0 || c.Pin > api.MaxPin {
		return false
	}
	if c.Low.Sign() < 0 || c.Low.Cmp(c.High) > 0 || c.High.Cmp(whole.Of(api.MaxFriction)) > 0 {
		return false
	}
	return !slices.ContainsFunc(c.Loads, func(l Load) bool { return !c.holds(l.Stone) })
}

// holds tells whether there is a stone with this number in the skin.
func (c Case) holds(i int) bool {
	if i < 0 || i >= len(c.Wall.Stones) {
		return false
	}
	skin := c.Wall.Stones[i].Skin
	return skin == c.Skin || skin == place.Through
}

// pile returns the error of a case that is not valid.
func pile(c Case) (stack, api.Errno) {
	if e := Check(c); e != api.OK {
		return stack{}, e
	}
	s := stack{c, make([]*body, len(c.Wall.Stones))}
	boxes := c.boxes()
	for i := range s.stones {
		if c.holds(i) {
			s.stones[i] = &body{c.own(i), c.beds(i, boxes)}
		}
	}
	return s, api.OK
}

// own returns the sum of the weight and the loads of a stone.
func (c Case) own(i int) sum {
	return fold(c.Loads, weigh(c.Wall.Stones[i]), func(s sum, l Load) sum {
		if l.Stone == i {
			return s.with(l.At, l.Force)
		}
		return s
	})
}

// weigh returns the weight, at the centre, that a laid stone has in one skin.
func weigh(p place.Placed) sum {
	turned, _ := stone.Turned(p.Stone, p.Way)
	mx, mz, by, _ := stone.Centre(turned)
	x, _ := whole.Ratio(mx, by)
	z, _ := whole.Ratio(mz, by)
	weight, _ := stone.Weight(turned)
	skins := int64(1)
	if p.Skin == place.Through {
		skins = 2
	}
	down, _ := whole.Ratio(-weight, skins)
	return sum{}.with(pair(p.At).Add(whole.V{X: x, Z: z}), whole.V{Z: down})
}

// box is what is around a stone.
type box struct{ left, right, low, high int }

// around returns the box of a valid laid stone.
func around(p place.Placed) box {
	b := box{p.At.X, p.At.X, p.At.Z, p.At.Z}
	corners, _ := place.Corners(p)
	for _, q := range corners {
		b.right, b.high = max(b.right, q.X), max(b.high, q.Z)
	}
	return b
}

// boxes are those of all stones of the wall.
func (c Case) boxes() []box {
	l := make([]box, len(c.Wall.Stones))
	for i, p := range c.Wall.Stones {
		l[i] = around(p)
	}
	return l
}

// mayLieOn tells whether a bed over pins is not out of the question.
func (a box) mayLieOn(b box, pin int) bool {
	return a.left < b.right && b.left < a.right && a.low <= b.high+pin && b.low <= a.high
}

// beds returns those of a stone of the case on the ground and on other stones
// of it. The wall that place sees has only the stones that may matter: it looks
// at all stones of a wall, each time.
func (c Case) beds(i int, boxes []box) []place.Bed {
	near := place.Wall{Ground: c.Wall.Ground, Stones: []place.Placed{c.Wall.Stones[i]}}
	numbers := []int{i}
	for j, p := range c.Wall.Stones {
		if j != i && c.holds(j) && boxes[i].mayLieOn(boxes[j], c.Pin) {
			near.Stones = append(near.Stones, p)
			numbers = append(numbers, j)
		}
	}
	l, _ := place.Beds(near, 0, c.Pin)
	for k, b := range l {
		if b.By != theGround {
			l[k].By = numbers[b.By]
		}
	}
	return l
}

func (s stack) has(i int) bool { return i >= 0 && i < len(s.stones) && s.stones[i] != nil }

// with returns the stack with another body, or none (nil), for a stone.
func (s stack) with(i int, b *body) stack {
	s.stones = slices.Clone(s.stones)
	s.stones[i] = b
	return s
}

// contacts yields those of a stone that is there, on the ground and on stones
// that are there.
func (s stack) contacts(i int) iter.Seq[contact] {
	return func(yield func(c contact) bool) {
		for _, b := range s.stones[i].beds {
			if b.By != theGround && !s.has(b.By) {
				continue
			}
			for c := range ends(b) {
				if !yield(c) {
					return
				}
			}
		}
	}
}
