package thrust

import (
	"slices"

	"copestone/whole"
)

// fate is what happens to a stone when it is done: it rests on its contacts, or
// fails.
type fate interface{ fate() }

// rest is the fate of a stone that stands: with what it presses, and where.
type rest []push

// failure is the fate of one that does not: a reason, and what its motion takes
// from there. A stone that tips has a turn, and one that slides a push that may
// not be.
type failure struct {
	Reason
	turn int
	push
}

func (rest) fate() {}

func (*failure) fate() {}

// push is a force at a contact.
type push struct {
	contact
	force whole.V
}

// prop is a contact with the Cross of its point and the force that the stones
// below have to carry.
type prop struct {
	contact
	cross whole.R
}

func byCross(a, b prop) int { return a.cross.Cmp(b.cross) }

// props returns the contacts of a stone with at most the Cross of what presses
// it, and those with at least that.
func (s stack) props(i int, pressed sum) (under, over []prop) {
	for c := range s.contacts(i) {
		p := prop{c, c.at.Cross(pressed.force)}
		side := p.cross.Cmp(pressed.turn)
		if side <= 0 {
			under = append(under, p)
		}
		if side >= 0 {
			over = append(over, p)
		}
	}
	return under, over
}

// decide follows the rule of thrust for one stone.
func (s stack) decide(i int, pressed sum) fate {
	under, over := s.props(i, pressed)
	alone := Reason{Stone: i, By: theGround}
	switch {
	case len(under) == 0 && len(over) == 0:
		alone.Kind = Hangs
		return &failure{Reason: alone}
	case pressed.force.Z.Sign() >= 0:
		alone.Kind = Lifts
		return &failure{Reason: alone}
	case len(under) == 0:
		return tip(i, slices.MinFunc(over, byCross), -1)
	case len(over) == 0:
		return tip(i, slices.MaxFunc(under, byCross), 1)
	}
	// Both functions return the first one of equals.
	l, r := slices.MaxFunc(under, byCross), slices.MinFunc(over, byCross)
	pushes := share(pressed, l, r)
	for _, p := range pushes {
		if !p.carries(p.force, s.Low) {
			return &failure{Reason: Reason{i, Slides, p.by, p.at}, push: p}
		}
	}
	return pushes
}

func tip(i int, p prop, turn int) fate {
	return &failure{Reason: Reason{i, Tips, p.by, p.at}, turn: turn}
}

// share divides what presses a stone among two contacts, so that the Crosses
// are right as well.
func share(pressed sum, l, r prop) rest {
	if l.cross.Cmp(pressed.turn) == 0 {
		return rest{{l.contact, pressed.force}}
	}
	part, _ := pressed.turn.Sub(l.cross).Div(r.cross.Sub(l.cross))
	right := pressed.force.Scale(part)
	return rest{{l.contact, pressed.force.Sub(right)}, {r.contact, right}}
}
