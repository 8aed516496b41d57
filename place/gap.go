package place

import (
	"iter"
	"slices"

	"copestone/whole"
)

// gap is what is between two lines, in the range that both have.
type gap struct {
	upper, lower line
	from, to     int
}

// gapOver returns the gap of a line over another one; false, if their common
// range is not longer than a point.
func gapOver(upper, lower line) (gap, bool) {
	g := gap{upper, lower, max(upper.left(), lower.left()), min(upper.right(), lower.right())}
	return g, g.from < g.to
}

// at is below 0 where the upper line is the lower one.
func (g gap) at(x int) fraction { return g.upper.at(x).minus(g.lower.at(x)) }

// corners are the places between which the gap is linear.
func (g gap) corners() iter.Seq[int] { return corners(g.from, g.to, g.upper, g.lower) }

// least returns the least gap, and the first x at which it is so.
func (g gap) least() (int, fraction) { return least(g.corners(), g.at) }

// opens tells whether the gap is nowhere below 0.
func (g gap) opens() bool {
	for x := range g.corners() {
		if g.at(x).sign() < 0 {
			return false
		}
	}
	return true
}

// ordered is a kind of number that can be compared.
type ordered[N any] interface{ Cmp(b N) int }

// least returns the first place at which the value is least, and this value.
func least[P any, N ordered[N]](places iter.Seq[P], value func(P) N) (at P, low N) {
	found := false
	for p := range places {
		if n := value(p); !found || n.Cmp(low) < 0 {
			at, low, found = p, n, true
		}
	}
	return at, low
}

// crossing returns the x between two places at which the gap, which is linear
// between them, and not the same at both, is z.
func (g gap) crossing(x, y, z int) whole.R {
	a, b := g.at(x).ratio(), g.at(y).ratio()
	share := over(of(z).Sub(a), b.Sub(a))
	return of(x).Add(share.Mul(of(y - x)))
}

// crossed returns the x strictly between two places at which the gap, which is
// linear between them, changes its sign.
func (g gap) crossed(x, y int) []whole.R {
	if g.at(x).sign()*g.at(y).sign() >= 0 {
		return nil
	}
	return []whole.R{g.crossing(x, y, 0)}
}

// bed is the range in which a stone lies on something.
type bed struct{ from, to whole.R }

func (b bed) holds(x whole.R) bool { return b.from.Cmp(x) <= 0 && x.Cmp(b.to) <= 0 }

// bed returns where the gap is at most pin; false, if its least value is not
// from 0 to pin.
func (g gap) bed(pin int) (bed, bool) {
	if _, low := g.least(); low.sign() < 0 || low.Cmp(level(pin)) > 0 {
		return bed{}, false
	}
	places := slices.Collect(g.corners())
	from := g.reach(places, pin)
	slices.Reverse(places)
	return bed{from, g.reach(places, pin)}, true
}

// reach returns the first x on the way along the places at which the gap is at
// most pin; it is so at one of the places.
func (g gap) reach(places []int, pin int) whole.R {
	i := slices.IndexFunc(places, func(x int) bool { return g.at(x).Cmp(level(pin)) <= 0 })
	if i == 0 {
		return of(places[0])
	}
	return g.crossing(places[i-1], places[i], pin)
}
