package hill_test

import (
	"math/big"
	"slices"

	"copestone/api"
)

func integer(n int) *big.Rat { return big.NewRat(int64(n), 1) }

func plus(a, b *big.Rat) *big.Rat { return new(big.Rat).Add(a, b) }

func minus(a, b *big.Rat) *big.Rat { return new(big.Rat).Sub(a, b) }

func times(a, b *big.Rat) *big.Rat { return new(big.Rat).Mul(a, b) }

func quotient(a, b *big.Rat) *big.Rat { return new(big.Rat).Quo(a, b) }

// groundAt returns the height of the line through the points: each point of an edge
// counts as much as x is near to it.
func groundAt(l []point, x *big.Rat) *big.Rat {
	for i := range l[1:] {
		p, q := l[i], l[i+1]
		before, behind := minus(x, integer(p.X)), minus(integer(q.X), x)
		if before.Sign() >= 0 && behind.Sign() >= 0 {
			z := plus(times(integer(p.Z), behind), times(integer(q.Z), before))
			return quotient(z, integer(q.X-p.X))
		}
	}
	return nil
}

func groundOf(l []point, x int) *big.Rat { return groundAt(l, integer(x)) }

// turns returns the ends of a stretch and the points of the profile between them.
func turns(l []point, a, b int) []int {
	xs := []int{a}
	for _, p := range l {
		if a < p.X && p.X < b {
			xs = append(xs, p.X)
		}
	}
	return append(xs, b)
}

func boundsOf(l []point, a, b int) (least, most *big.Rat) {
	for _, x := range turns(l, a, b) {
		g := groundOf(l, x)
		if least == nil || g.Cmp(least) < 0 {
			least = g
		}
		if most == nil || g.Cmp(most) > 0 {
			most = g
		}
	}
	return least, most
}

// areasOf cuts the stretch where the ground turns, and where it meets the level: a
// part is then above or below it, and has its height in the middle.
func areasOf(l []point, a, b, z int) (above, below *big.Rat) {
	above, below = new(big.Rat), new(big.Rat)
	xs := turns(l, a, b)
	for i := range xs[1:] {
		from, to := integer(xs[i]), integer(xs[i+1])
		cuts := []*big.Rat{from, to}
		p, q := minus(groundAt(l, from), integer(z)), minus(groundAt(l, to), integer(z))
		if p.Sign()*q.Sign() < 0 {
			part := quotient(p, minus(p, q))
			cuts = []*big.Rat{from, plus(from, times(part, minus(to, from))), to}
		}
		for k := range cuts[1:] {
			middle := quotient(plus(cuts[k], cuts[k+1]), integer(2))
			area := times(minus(groundAt(l, middle), integer(z)), minus(cuts[k+1], cuts[k]))
			if area.Sign() > 0 {
				above.Add(above, area)
			} else {
				below.Sub(below, area)
			}
		}
	}
	return above, below
}

// floorOf returns the greatest integer that is at most r.
func floorOf(r *big.Rat) int {
	return int(new(big.Int).Div(r.Num(), r.Denom()).Int64())
}

func ceilOf(r *big.Rat) int {
	n := floorOf(r)
	if integer(n).Cmp(r) < 0 {
		n++
	}
	return n
}

// deepOf returns the levels of the treads that take no account of each other.
func deepOf(l []point, breaks []int, depth int) []int {
	var levels []int
	for i := range breaks[1:] {
		least, _ := boundsOf(l, breaks[i], breaks[i+1])
		levels = append(levels, floorOf(least)-depth)
	}
	return levels
}

// feetOf lowers levels as long as a neighbour asks for it.
func feetOf(l []point, breaks []int, depth, rise int) []int {
	levels := deepOf(l, breaks, depth)
	for changed := true; changed; {
		changed = false
		for i := range levels {
			for _, k := range []int{i - 1, i + 1} {
				if k >= 0 && k < len(levels) && levels[i]-levels[k] > rise {
					levels[i], changed = levels[k]+rise, true
				}
			}
		}
	}
	return levels
}

// headsOf raises levels as long as a neighbour asks for it.
func headsOf(l []point, breaks []int, height, rise int) []int {
	var levels []int
	for i := range breaks[1:] {
		_, most := boundsOf(l, breaks[i], breaks[i+1])
		levels = append(levels, ceilOf(most)+height)
	}
	for changed := true; changed; {
		changed = false
		for i := range levels {
			for _, k := range []int{i - 1, i + 1} {
				if k >= 0 && k < len(levels) && levels[k]-levels[i] > rise {
					levels[i], changed = levels[k]-rise, true
				}
			}
		}
	}
	return levels
}

// areFeet tells whether levels have both properties of feet.
func areFeet(l []point, breaks, levels []int, depth, rise int) bool {
	for i, level := range levels {
		least, _ := boundsOf(l, breaks[i], breaks[i+1])
		if integer(level+depth).Cmp(least) > 0 {
			return false
		}
		if i > 0 && (level-levels[i-1] > rise || levels[i-1]-level > rise) {
			return false
		}
	}
	return true
}

func diggingOf(l []point, breaks, levels []int) *big.Rat {
	sum := new(big.Rat)
	for i, level := range levels {
		above, _ := areasOf(l, breaks[i], breaks[i+1], level)
		sum.Add(sum, above)
	}
	return sum
}

// cutsOf returns all cuts, by choosing among all multiples of the unit.
func cutsOf(a, b, unit, least, most int) [][]int {
	var inner []int
	for x := a + unit; x < b; x += unit {
		inner = append(inner, x)
	}
	var all [][]int
	for chosen := range 1 << len(inner) {
		cuts := []int{a}
		for i, x := range inner {
			if chosen>>i&1 == 1 {
				cuts = append(cuts, x)
			}
		}
		cuts = append(cuts, b)
		fit := len(cuts)-1 <= most
		for i := range cuts[1:] {
			fit = fit && cuts[i+1]-cuts[i] >= least
		}
		if fit {
			all = append(all, cuts)
		}
	}
	return all
}

func costOf(l []point, breaks []int, depth int) *big.Rat {
	return diggingOf(l, breaks, deepOf(l, breaks, depth))
}

// bestOf looks at all cuts; it returns how many have the least cost as well.
func bestOf(l []point, a, b, unit, least, most, depth int) (best []int, cost *big.Rat, equal int) {
	for _, cuts := range cutsOf(a, b, unit, least, most) {
		c := costOf(l, cuts, depth)
		if cost == nil || c.Cmp(cost) < 0 {
			best, cost, equal = cuts, c, 1
			continue
		}
		if c.Cmp(cost) > 0 {
			continue
		}
		equal++
		if len(cuts) < len(best) || len(cuts) == len(best) && slices.Compare(cuts, best) < 0 {
			best = cuts
		}
	}
	return best, cost, equal
}

// rowsOf looks at all rows that may be listed.
func rowsOf(breaks, feet, heads []int, height int) []row {
	var l []row
	for i := range api.MaxRows {
		low := slices.Min(feet) + i*height
		var bays []bay
		for from := range feet {
			for to := from + 1; to <= len(feet); to++ {
				// As long as possible: all between have the row, both beside do not.
				if hasAll(feet, heads, low, height, from, to) && !hasAll(feet, heads, low, height, from-1, from) && !hasAll(feet, heads, low, height, to, to+1) {
					bays = append(bays, bay{From: breaks[from], To: breaks[to]})
				}
			}
		}
		if len(bays) > 0 {
			l = append(l, row{Low: low, High: low + height, Bays: bays})
		}
	}
	return l
}

func hasAll(feet, heads []int, low, height, from, to int) bool {
	for i := from; i < to; i++ {
		if i < 0 || i >= len(feet) || feet[i] > low || heads[i] < low+height {
			return false
		}
	}
	return true
}

func poolOf(l []point, a, b, z int) *big.Rat {
	_, below := areasOf(l, a, b, z)
	return below
}

// floodOf raises the level by one millimetre after the other.
func floodOf(l []point, a, b, area int) int {
	least, _ := boundsOf(l, a, b)
	for z := floorOf(least); ; z++ {
		if poolOf(l, a, b, z).Cmp(integer(area)) >= 0 {
			return z
		}
	}
}
