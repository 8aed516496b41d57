package thrust

import (
	"iter"

	"copestone/place"
	"copestone/stone"
	"copestone/whole"
)

// theGround is the number that stands for the ground where others are those of stones.
const theGround = -1

// contact is a point at which a stone lies on another one, or on the ground,
// with the direction of what carries there.
type contact struct {
	by      int
	at, way whole.V
}

func of(n int) whole.R { return whole.Of(int64(n)) }

func pair(p stone.Point) whole.V { return whole.V{X: of(p.X), Z: of(p.Z)} }

// ends yields the contacts of a bed.
func ends(b place.Bed) iter.Seq[contact] {
	return func(yield func(c contact) bool) {
		if yield(contact{b.By, b.From, pair(b.FromWay)}) && !b.From.Same(b.To) {
			yield(contact{b.By, b.To, pair(b.ToWay)})
		}
	}
}

// into returns how much of a force goes into what carries.
func (c contact) into(force whole.V) whole.R { return force.Cross(c.way) }

// carries tells whether a force may press here.
func (c contact) carries(force whole.V, friction whole.R) bool {
	into := c.into(force)
	return into.Sign() > 0 && force.Dot(c.way).Abs().Cmp(friction.Mul(into)) <= 0
}

// frees tells whether what moves here with this velocity leaves what carries it
// so steeply that no force that may press here would do work below 0.
func (c contact) frees(velocity whole.V, friction whole.R) bool {
	return c.way.Cross(velocity).Cmp(friction.Mul(velocity.Dot(c.way).Abs())) >= 0
}
