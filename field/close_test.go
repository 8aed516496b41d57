package field_test

import (
	"fmt"
	"math/rand"
	"slices"
	"testing"

	"copestone/api"
	"copestone/field"
)

// P9.6: Close, ProveClose.

// wantClose wants a closing with so many borders, and its proof.
func wantClose(t *testing.T, what string, p drawing, m chart, a animal, from, to, count int) []int {
	t.Helper()
	borders, walks, e := field.Close(p, m, a, from, to)
	want(t, what, [3]int{len(borders), len(walks), int(e)}, [3]int{count, count, 0})
	want(t, what+", a closing", isClosing(arcs(p, m, a), m, from, to, borders), true)
	want(t, what+", is least", isLeast(p, m, a, from, to, borders, walks), true)
	want(t, what+", proved", field.ProveClose(p, m, a, from, to, borders, walks), true)
	return borders
}

func TestClose(t *testing.T) {
	borders, walks, e := field.Close(example(), moor(0, 0), hare, 0, 1)
	wantErr(t, "the hare", e, api.OK)
	wantList(t, "the hare", borders, 0)
	want(t, "one walk", len(walks), 1)
	wantList(t, "the walk", walks[0], step{0, 0})
	wantClose(t, "the hare", example(), moor(0, 0), hare, 1, 0, 1)
	wantClose(t, "the ewe", example(), moor(0, 0), ewe, 0, 1, 0)
	wantClose(t, "the ewe from above", example(), moor(400, 0), ewe, 0, 1, 1)
	wantClose(t, "the ewe from below", example(), moor(400, 0), ewe, 1, 0, 0)
	wantClose(t, "no borders", example(), charted(2), hare, 1, 0, 0)
	wantClose(t, "several borders", ladder(), charted(2, link(0, 1, 1), link(1, 0, 5), link(0, 1, 0), oneWay(0, 1), oneWay(1, 0)), goat, 0, 1, 3)
	neck := charted(5, link(0, 1, 1), link(0, 2, 1), link(1, 2, 1), link(1, 3, 1), link(3, 4, 1), link(2, 3, 1), link(4, 3, 1), link(4, 3, 1))
	wantClose(t, "two necks", ladder(), neck, goat, 0, 3, 2)
}

func TestCloseShapes(t *testing.T) {
	wantList(t, "a chain", wantClose(t, "a chain", ladder(), charted(4, link(0, 1, 1), link(0, 1, 1), link(1, 2, 5), link(2, 3, 1), link(2, 3, 2)), goat, 0, 3, 1), 2)
	wantClose(t, "a grid", ladder(), grid(5, 8, 1), goat, 0, 39, 2)
	wantClose(t, "a grid, from its middle", ladder(), grid(5, 8, 1), goat, 18, 21, 4)
	wantClose(t, "a grid with walls that nothing gets across", ladder(), grid(6, 6, 1, 2, 0), goat, 14, 28, 1)
	// The first walk that may be found takes the border 2, which must be given back.
	wantClose(t, "a bridge", ladder(), charted(4, link(0, 1, 1), link(0, 2, 1), link(1, 2, 1), link(1, 3, 1), link(2, 3, 1)), goat, 0, 3, 2)
	wantClose(t, "a bridge one way", ladder(), charted(4, oneWay(0, 1), oneWay(0, 2), oneWay(1, 2), oneWay(1, 3), oneWay(2, 3)), goat, 0, 3, 2)
	wantClose(t, "a bridge the other way", ladder(), charted(4, oneWay(0, 1), oneWay(0, 2), oneWay(2, 1), oneWay(1, 3), oneWay(2, 3)), goat, 0, 3, 2)
	wantClose(t, "only the bridge", ladder(), charted(4, oneWay(0, 1), oneWay(2, 0), oneWay(1, 2), oneWay(3, 1), oneWay(2, 3)), goat, 0, 3, 1)
	var many []border
	for i := range api.MaxBorders {
		many = append(many, link(i%2, 1-i%2, 1+i%5))
	}
	wantClose(t, "all of 80 borders", ladder(), charted(2, many...), goat, 0, 1, api.MaxBorders)
	var star []border
	for i := range 38 {
		star = append(star, link(0, i+1, 1), link(39, i+1, 2))
	}
	wantClose(t, "as many cells as may be", ladder(), charted(40, star...), goat, 39, 0, 38)
}

func TestProveClose(t *testing.T) {
	m := charted(4, link(0, 1, 1), link(0, 2, 1), link(1, 2, 1), link(1, 3, 1), link(2, 3, 1), link(3, 2, 0), link(0, 1, 0))
	upper, lower := link0(0, 3), link0(1, 4)
	prove := func(to bool, what string, from, end int, borders []int, walks ...[]step) {
		t.Helper()
		want(t, what, field.ProveClose(ladder(), m, goat, from, end, borders, walks), to)
	}
	prove(true, "a closing at the start", 0, 3, []int{0, 1}, upper, lower)
	prove(true, "the walks the other way round", 0, 3, []int{0, 1}, lower, upper)
	prove(true, "a closing at the end", 0, 3, []int{3, 4}, upper, lower)
	prove(true, "by other ways", 0, 3, []int{3, 4}, []step{{0, -1}, {3, 0}}, []step{{1, 0}, {4, -1}})
	prove(true, "back", 3, 0, []int{3, 4}, link0(3, 0), link0(4, 1))
	prove(true, "to the middle", 0, 2, []int{0, 1}, link0(1), link0(0, 2))
	prove(false, "nothing", 0, 3, nil)
	prove(false, "a border too few", 0, 3, []int{0}, upper, lower)
	prove(false, "a border and a walk", 0, 3, []int{0}, upper)
	prove(false, "no closing", 0, 3, []int{0, 3}, upper, lower)
	prove(false, "a closing that is not least", 0, 3, []int{0, 1, 2}, upper, lower)
	prove(false, "a border that cannot be crossed", 0, 3, []int{0, 1, 5}, upper, lower)
	prove(false, "a border that is not needed, and three walks", 0, 3, []int{0, 1, 5}, upper, lower, upper)
	prove(false, "not rising", 0, 3, []int{1, 0}, upper, lower)
	prove(false, "a border twice", 0, 3, []int{0, 0, 1}, upper, lower, upper)
	prove(false, "a walk too few", 0, 3, []int{0, 1}, upper)
	prove(false, "a walk too many", 0, 3, []int{0, 1}, upper, lower, upper)
	prove(false, "no walks", 0, 3, []int{0, 1})
	prove(false, "a walk twice", 0, 3, []int{0, 1}, upper, upper)
	prove(false, "walks with a common border", 0, 3, []int{0, 1}, upper, link0(1, 2, 3))
	prove(false, "a border twice in a walk", 0, 3, []int{0, 1}, link0(0, 2, 2, 3), lower)
	prove(false, "a border twice in the last walk", 0, 3, []int{0, 1}, upper, link0(1, 2, 2, 4))
	prove(false, "an empty walk", 0, 3, []int{0, 1}, upper, nil)
	prove(false, "a walk to another cell", 0, 3, []int{0, 1}, upper, link0(1))
	prove(false, "a walk from another cell", 0, 3, []int{0, 1}, upper, link0(4))
	prove(false, "a walk by no way", 0, 3, []int{0, 1}, upper, []step{{1, 0}, {4, 1}})
	prove(false, "a walk across no border", 0, 3, []int{0, 1}, upper, []step{{1, 0}, {7, 0}})
	prove(false, "from another cell", 1, 3, []int{0, 1}, upper, lower)
	prove(false, "to another cell", 0, 2, []int{0, 1}, upper, lower)
	prove(false, "to the same cell", 0, 0, nil)
	prove(false, "to the same cell, all closed", 0, 0, []int{0, 1, 2, 3, 4, 5, 6}, nil, nil, nil, nil, nil, nil, nil)
	for _, n := range append([]int{-1, 7}, far...) {
		prove(false, fmt.Sprint("the border ", n), 0, 3, []int{0, n}, upper, lower)
		prove(false, fmt.Sprint("the first border ", n), 0, 3, []int{n, 1}, upper, lower)
		prove(false, fmt.Sprint("the step ", n), 0, 3, []int{0, 1}, upper, []step{{n, 0}, {4, 0}})
		prove(false, fmt.Sprint("the way ", n), 0, 3, []int{0, 1}, upper, []step{{1, n - 1}, {4, 0}})
	}
	apart := charted(3, link(0, 1, 1), oneWay(2, 1))
	want(t, "nothing to be closed", field.ProveClose(ladder(), apart, goat, 0, 2, nil, nil), true)
	want(t, "nothing to be closed, something closed", field.ProveClose(ladder(), apart, goat, 0, 2, []int{0}, nil), false)
	want(t, "nothing to be closed, a walk", field.ProveClose(ladder(), apart, goat, 0, 2, []int{0}, [][]step{link0(0)}), false)
	// A walk that goes round in a circle, by other borders, is a walk.
	round := charted(4, link(0, 1, 1), link(1, 2, 1), link(2, 3, 1), link(3, 1, 1))
	want(t, "round in a circle", field.ProveClose(ladder(), round, goat, 0, 1, []int{0}, [][]step{link0(0, 1, 2, 3)}), true)
}

// P9.10: closings.

func TestCloseMany(t *testing.T) {
	seen := map[int]int{}
	lands(t, 911, 2500, func(x *rand.Rand, p drawing, m chart, a animal) {
		from, to := pair(x, len(m.Cells))
		what := fmt.Sprint(p, m, a, from, to)
		count := fewest(arcs(p, m, a), m, from, to)
		borders := wantClose(t, what, p, m, a, from, to, count)
		wantAway(t, what, p, m, a, from, to, borders)
		seen[min(count, 4)]++
	})
	for count := range 4 {
		if seen[count] < 100 {
			t.Errorf("%d borders: %d times", count, seen[count])
		}
	}
}

// pair returns two different cells.
func pair(x *rand.Rand, cells int) (int, int) {
	from := x.Intn(cells)
	return from, (from + 1 + x.Intn(cells-1)) % cells
}

// wantAway takes the borders of a least closing away from the map: with all of them
// away the second cell is not reached, with one of them left it is.
func wantAway(t *testing.T, what string, p drawing, m chart, a animal, from, to int, borders []int) {
	t.Helper()
	away := func(left int) chart {
		n := chart{Cells: m.Cells}
		for i, b := range m.Borders {
			if i == left || !slices.Contains(borders, i) {
				n.Borders = append(n.Borders, b)
			}
		}
		return n
	}
	want(t, what+", all away", slices.Contains(ok[[]int](t)(field.Reached(p, away(-1), a, from)), to), false)
	for _, left := range borders {
		want(t, what+", one left", slices.Contains(ok[[]int](t)(field.Reached(p, away(left), a, from)), to), true)
	}
}

func TestCloseWide(t *testing.T) {
	seen := map[int]int{}
	wideLands(t, 912, 200, func(x *rand.Rand, p drawing, m chart, a animal) {
		from, to := pair(x, len(m.Cells))
		what := fmt.Sprint(p, m, a, from, to)
		borders, _, _ := field.Close(p, m, a, from, to)
		wantClose(t, what, p, m, a, from, to, len(borders))
		wantAway(t, what, p, m, a, from, to, borders)
		seen[min(len(borders), 4)]++
	})
	for count := range 5 {
		if seen[count] < 5 {
			t.Errorf("%d borders: %d times", count, seen[count])
		}
	}
}

func TestProveCloseMany(t *testing.T) {
	seen := map[bool]int{}
	lands(t, 913, 6000, func(x *rand.Rand, p drawing, m chart, a animal) {
		from, to := pair(x, len(m.Cells))
		borders, walks, _ := field.Close(p, m, a, from, to)
		switch x.Intn(6) {
		case 0:
			borders = changedBorders(x, borders, len(m.Borders))
		case 1:
			from, to = to, from
		case 2:
			to = x.Intn(len(m.Cells))
		case 3:
			if len(borders) > 0 {
				borders, walks = borders[1:], walks[1:]
			}
		}
		if len(walks) > 0 && x.Intn(2) == 0 {
			i := x.Intn(len(walks))
			walks[i] = mangledWalk(x, walks[i], len(m.Borders))
		}
		l := arcs(p, m, a)
		holds := isClosing(l, m, from, to, borders) && isLeast(p, m, a, from, to, borders, walks)
		want(t, fmt.Sprint(p, m, a, from, to, borders, walks), field.ProveClose(p, m, a, from, to, borders, walks), holds)
		seen[holds && len(borders) > 0]++
	})
	if seen[true] < 500 || seen[false] < 500 {
		t.Errorf("%v", seen)
	}
}

func changedBorders(x *rand.Rand, l []int, borders int) []int {
	l = slices.Clone(l)
	if len(l) == 0 || x.Intn(2) == 0 {
		l = append(l, x.Intn(borders+1))
		if x.Intn(4) > 0 {
			slices.Sort(l)
		}
		return l
	}
	l[x.Intn(len(l))] = upTo(x, -1, borders)
	return l
}
