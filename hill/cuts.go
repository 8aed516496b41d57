package hill

import (
	"slices"

	"copestone/api"
)

// trench is to be cut into treads. It is counted in units, from 0 on; a tread has
// at least as many of them as shortest.
type trench struct {
	levels   []int // those of the units, if each were a tread
	shortest int
}

// cuts are the best ones with some number of treads, from the beginning of a trench
// to the end of each of its units, and what they cost. If an end cannot be reached,
// it has no cost.
type cuts struct {
	lists [api.MaxTreads + 1][]int
	costs map[int]int
}

// bestCuts returns the breaks of the best cuts; there are cuts.
func (s stretch) bestCuts(unit, least, most, depth int) []int {
	grid := []int{s.from}
	for x := s.from; x < s.to; x += unit {
		grid = append(grid, x+unit)
	}
	t := trench{alone(s.treads(grid), depth, stretch.foot), (least + unit - 1) / unit}
	var breaks []int
	for _, n := range t.best(most) {
		breaks = append(breaks, grid[n])
	}
	return breaks
}

// best returns the best cuts of the whole trench.
func (t trench) best(most int) []int {
	var found []int
	leastCost := 0
	c := cuts{costs: map[int]int{0: 0}}
	c.lists[0] = []int{0}
	for range most {
		c = t.longer(c)
		end := len(t.levels)
		cost, reached := c.costs[end]
		if reached && (found == nil || cost < leastCost) {
			found, leastCost = c.lists[end], cost
		}
	}
	return found
}

// longer returns the best cuts with a tread more.
func (t trench) longer(c cuts) cuts {
	more := cuts{costs: map[int]int{}}
	for to := range len(t.levels) + 1 {
		for from := range to - t.shortest + 1 {
			if cost, reached := c.costs[from]; reached {
				more.offer(append(slices.Clone(c.lists[from]), to), cost+t.cost(from, to))
			}
		}
	}
	return more
}

// offer keeps cuts if they are better than those with the same end.
func (c *cuts) offer(list []int, cost int) {
	end := list[len(list)-1]
	known, reached := c.costs[end]
	if !reached || cost < known || cost == known && slices.Compare(list, c.lists[end]) < 0 {
		c.lists[end], c.costs[end] = list, cost
	}
}

// cost returns what a tread costs in areas of the width of a unit, but for the area
// between the ground and 0: this adds up to the same for all cuts, as their levels
// are nowhere above the ground. So costs are whole numbers.
func (t trench) cost(from, to int) int { return -slices.Min(t.levels[from:to]) * (to - from) }
