package field_test

import (
	"fmt"
	"math"
	"math/rand"
	"slices"
	"testing"

	"copestone/api"
	"copestone/field"
)

// P9.3: Reached.

func wantReached(t *testing.T, what string, p drawing, m chart, a animal, from int, cells ...int) {
	t.Helper()
	wantList(t, what, ok[[]int](t)(field.Reached(p, m, a, from)), cells...)
}

func TestReached(t *testing.T) {
	wantReached(t, "the hare from the croft", example(), moor(0, 0), hare, 1, 0, 1)
	wantReached(t, "the hare from the moor", example(), moor(0, 0), hare, 0, 0, 1)
	wantReached(t, "the ewe from the croft", example(), moor(0, 0), ewe, 1, 1)
	wantReached(t, "the ewe from the moor", example(), moor(0, 0), ewe, 0, 0)
	wantReached(t, "the ewe from the moor that is higher", example(), moor(400, 0), ewe, 0, 0, 1)
	wantReached(t, "the ewe from the croft that is lower", example(), moor(400, 0), ewe, 1, 1)
	wantReached(t, "no borders", drawing{}, charted(3), hare, 1, 1)
	m := charted(6, oneWay(5, 0), link(3, 0, 5), oneWay(1, 3), link(2, 4, 1), link(0, 4, 0))
	wantReached(t, "from 5", ladder(), m, goat, 5, 0, 3, 5)
	wantReached(t, "from 1", ladder(), m, goat, 1, 0, 1, 3)
	wantReached(t, "from 0", ladder(), m, goat, 0, 0, 3)
	wantReached(t, "from 4", ladder(), m, goat, 4, 2, 4)
	var all []int
	for i := range api.MaxCells {
		all = append(all, i)
	}
	wantReached(t, "all cells, one behind the other", ladder(), grid(1, api.MaxCells, 5), goat, 17, all...)
}

// P9.4: Walk, Proof, ProveWalk.

func wantWalk(t *testing.T, what string, p drawing, m chart, a animal, from, to, effort int, steps ...step) {
	t.Helper()
	l, got, e := field.Walk(p, m, a, from, to)
	want(t, what, [2]int{got, int(e)}, [2]int{effort, 0})
	wantList(t, what, l, steps...)
	proof := ok[[]int](t)(field.Proof(p, m, a, from, to))
	want(t, what+", proved", field.ProveWalk(p, m, a, from, to, l, proof), true)
}

func wantNoWalk(t *testing.T, what string, p drawing, m chart, a animal, from, to int) {
	t.Helper()
	l, effort, e := field.Walk(p, m, a, from, to)
	wantList(t, what, l)
	want(t, what, [2]int{effort, int(e)}, [2]int{0, int(api.ErrNone)})
	proof, e := field.Proof(p, m, a, from, to)
	wantList(t, what+", the proof", proof)
	wantErr(t, what+", the proof", e, api.ErrNone)
}

func TestWalk(t *testing.T) {
	wantWalk(t, "the hare", example(), moor(0, 0), hare, 0, 1, 1, step{0, 0})
	wantWalk(t, "the hare, back", example(), moor(0, 0), hare, 1, 0, 1, step{0, 0})
	wantNoWalk(t, "the ewe", example(), moor(0, 0), ewe, 0, 1)
	wantWalk(t, "the ewe from above", example(), moor(400, 0), ewe, 0, 1, 1101, step{0, -1})
	wantNoWalk(t, "the ewe from below", example(), moor(400, 0), ewe, 1, 0)
	wantWalk(t, "to the same cell", example(), moor(0, 0), ewe, 1, 1, 0)
	wantWalk(t, "to the only cell", drawing{}, charted(1), hare, 0, 0, 0)
}

// link0 is the step by the stile of a border, which is the best way across it.
func link0(borders ...int) []step {
	var l []step
	for _, b := range borders {
		l = append(l, step{b, 0})
	}
	return l
}

func TestWalkBest(t *testing.T) {
	wantWalk(t, "a way round", ladder(), charted(3, link(0, 2, 5), link(0, 1, 2), link(1, 2, 2)), goat, 0, 2, 4, link0(1, 2)...)
	wantWalk(t, "the straight way", ladder(), charted(3, link(0, 1, 3), link(1, 2, 2), link(0, 2, 4)), goat, 0, 2, 4, link0(2)...)
	wantWalk(t, "fewer steps before borders", ladder(), charted(3, link(0, 1, 2), link(1, 2, 2), link(0, 2, 4)), goat, 0, 2, 4, link0(2)...)
	wantWalk(t, "the least border of several", ladder(), charted(2, link(0, 1, 3), link(1, 0, 2), link(0, 1, 2)), goat, 0, 1, 2, link0(1)...)
	diamond := charted(4, link(1, 3, 1), link(2, 3, 1), link(2, 0, 1), link(0, 1, 1))
	wantWalk(t, "the least list", ladder(), diamond, goat, 0, 3, 2, link0(2, 1)...)
	wantWalk(t, "the least list, back", ladder(), diamond, goat, 3, 0, 2, link0(0, 3)...)
	late := charted(5, link(0, 1, 1), link(2, 4, 1), link(1, 3, 2), link(1, 2, 2), link(3, 4, 1))
	wantWalk(t, "the least list, late", ladder(), late, goat, 0, 4, 4, link0(0, 2, 4)...)
	// The longer list would be the less one.
	wantWalk(t, "fewer steps, greater borders", ladder(), charted(4, link(0, 1, 1), link(1, 2, 1), link(2, 3, 1), link(0, 3, 3)), goat, 0, 3, 3, link0(3)...)
	// A walk to a cell on the way with more steps, but lesser borders.
	wantWalk(t, "steps on the way", ladder(), charted(4, link(0, 1, 1), link(1, 2, 1), link(0, 2, 2), link(2, 3, 1)), goat, 0, 3, 3, link0(2, 3)...)
	wantWalk(t, "only there", ladder(), charted(3, oneWay(0, 1), link(1, 2, 3), oneWay(2, 0)), goat, 0, 2, 4, link0(0, 1)...)
	wantWalk(t, "only round", ladder(), charted(3, oneWay(0, 1), link(1, 2, 3), oneWay(2, 0)), goat, 1, 0, 4, link0(1, 2)...)
	wantNoWalk(t, "only away", ladder(), charted(3, oneWay(0, 1), oneWay(2, 0)), goat, 0, 2)
}

func TestProof(t *testing.T) {
	wantProof := func(what string, p drawing, m chart, a animal, from, to int, proof ...int) {
		t.Helper()
		wantList(t, what, ok[[]int](t)(field.Proof(p, m, a, from, to)), proof...)
	}
	wantProof("the hare", example(), moor(0, 0), hare, 1, 0, 1, 0)
	wantProof("the ewe from the moor", example(), moor(400, 0), ewe, 0, 1, 0, 1101)
	wantProof("the ewe in the croft", example(), moor(400, 0), ewe, 1, 1, 1, 0)
	m := charted(6, link(3, 0, 5), oneWay(1, 3), link(2, 4, 1), link(0, 4, 0), oneWay(5, 1))
	wantProof("far cells", ladder(), m, goat, 1, 0, 6, 0, 7, 1, 7, 7)
	wantProof("the end does not matter", ladder(), m, goat, 1, 3, 6, 0, 7, 1, 7, 7)
	wantProof("from 3", ladder(), m, goat, 3, 0, 5, 6, 6, 0, 6, 6)
	wantProof("alone", ladder(), m, goat, 2, 4, 2, 2, 0, 2, 1, 2)
	wantProof("nothing is reached", ladder(), charted(3), goat, 1, 1, 1, 0, 1)
}

func TestProveWalk(t *testing.T) {
	m := charted(4, link(0, 1, 2), link(1, 2, 3), oneWay(2, 0), link(3, 2, 1), link(0, 1, 4))
	l, proof := link0(0, 1, 3), []int{0, 2, 5, 6}
	prove := func(to bool, what string, from, end int, l []step, proof ...int) {
		t.Helper()
		want(t, what, field.ProveWalk(ladder(), m, goat, from, end, l, proof), to)
	}
	prove(true, "the walk", 0, 3, l, proof...)
	prove(true, "other numbers", 0, 3, l, 0, 2, 5, 6)
	prove(true, "numbers below", 0, 1, l[:1], 0, 2, -1, 0)
	prove(true, "numbers below 0", 0, 1, l[:1], 0, 2, -1, -1)
	prove(true, "the empty walk", 2, 2, nil, -2, 0, 0, 1)
	prove(true, "an empty walk", 2, 2, []step{}, 0, 0, 0, 0)
	prove(false, "from another cell", 1, 3, l, proof...)
	prove(false, "to another cell", 0, 2, l, proof...)
	prove(false, "a part", 0, 3, l[:2], proof...)
	prove(false, "the end", 0, 3, l[1:], proof...)
	prove(false, "nothing", 0, 3, nil, proof...)
	prove(false, "nothing at all", 0, 3, nil)
	prove(false, "no proof", 0, 3, l)
	prove(false, "a short proof", 0, 2, l[:2], proof[:3]...)
	prove(false, "a long proof", 0, 3, l, append(slices.Clone(proof), 7)...)
	prove(false, "the first number", 0, 3, l, 1, 2, 5, 6)
	prove(false, "the first number below", 0, 3, l, -1, 1, 4, 6)
	prove(false, "the last number above", 0, 3, l, 0, 2, 5, 7)
	prove(false, "the last number below", 0, 3, l, 0, 2, 5, 5)
	prove(false, "a number above in between", 0, 3, l, 0, 3, 5, 6)
	prove(false, "too much at once", 0, 1, l[:1], 0, 2, 6, 6)
	prove(false, "another way, which is worse", 0, 3, []step{{0, -1}, {1, 0}, {3, 0}}, 0, 3, 6, 7)
	prove(false, "a worse border", 0, 3, link0(4, 1, 3), 0, 4, 7, 8)
	prove(false, "a worse way, the right numbers", 0, 3, []step{{0, -1}, {1, 0}, {3, 0}}, proof...)
	prove(false, "round in a circle", 0, 3, link0(0, 0, 0, 1, 3), proof...)
	prove(false, "the wrong direction", 0, 2, link0(2), 0, 2, 1, 2)
	for _, n := range append([]int{-1, 5}, far...) {
		prove(false, fmt.Sprint("the border ", n), 0, 3, []step{{n, 0}, {1, 0}, {3, 0}}, proof...)
		prove(false, fmt.Sprint("the way ", n-1), 0, 3, []step{{0, n - 1}, {1, 0}, {3, 0}}, proof...)
	}
	one := charted(2, oneWay(0, 1))
	for _, n := range []int{math.MaxInt, math.MinInt, math.MaxInt - 1, math.MinInt + 1} {
		want(t, fmt.Sprint("far back ", n), field.ProveWalk(ladder(), one, goat, 1, 1, nil, []int{n, 0}), n > 0 || n == -1)
		want(t, fmt.Sprint("far on ", n), field.ProveWalk(ladder(), one, goat, 0, 0, nil, []int{0, n}), n < 2)
	}
	chain := charted(3, link(1, 2, 5), oneWay(1, 0))
	for _, c := range []struct {
		near, far int
		holds     bool
	}{
		{math.MaxInt, math.MaxInt, true}, {math.MaxInt - 5, math.MaxInt, true}, {math.MaxInt - 6, math.MaxInt, false}, {math.MaxInt - 4, math.MaxInt, true}, {math.MaxInt, math.MaxInt - 5, true},
		{math.MaxInt, math.MaxInt - 6, false}, {math.MaxInt, math.MinInt, false}, {10, 15, true}, {10, 16, false},
	} {
		want(t, fmt.Sprint("near and far ", c), field.ProveWalk(ladder(), chain, goat, 0, 0, nil, []int{0, c.near, c.far}), c.holds)
	}
	want(t, "the least numbers", field.ProveWalk(ladder(), charted(3, link(1, 2, 5)), goat, 0, 0, nil, []int{0, math.MinInt, math.MinInt + 5}), true)
	want(t, "above the least numbers", field.ProveWalk(ladder(), charted(3, link(1, 2, 5)), goat, 0, 0, nil, []int{0, math.MinInt, math.MinInt + 6}), false)
}

// A walk by another way than the best one is a walk; if its effort is the least all
// the same, it can be proved.
func TestProveWalkOtherWays(t *testing.T) {
	p := north(smoot(250, 0, 220), beside(gate(700), 300))
	for _, way := range []int{0, 1} {
		want(t, fmt.Sprint("the way ", way), field.ProveWalk(p, moor(0, 0), hare, 0, 1, []step{{0, way}}, []int{0, 1}), true)
	}
	wantWalk(t, "the best way", p, moor(0, 0), hare, 0, 1, 1, step{0, 0})
	m := charted(3, link(0, 1, 1), link(0, 1, 1), link(1, 2, 2), link(0, 2, 3))
	for _, l := range [][]step{link0(3), link0(1, 2), link0(0, 2)} {
		want(t, fmt.Sprint("the walk ", l), field.ProveWalk(ladder(), m, goat, 0, 2, l, []int{0, 1, 3}), true)
	}
	wantWalk(t, "the best one", ladder(), m, goat, 0, 2, 3, link0(3)...)
}

// P9.8: walks.

func TestWalkMany(t *testing.T) {
	seen := map[string]int{}
	lands(t, 906, 3000, func(x *rand.Rand, p drawing, m chart, a animal) {
		l, from := arcs(p, m, a), x.Intn(len(m.Cells))
		reached := reachedBy(l, len(m.Cells), from)
		wantReached(t, fmt.Sprint(p, m, a, from), p, m, a, from, reached...)
		for to := range m.Cells {
			what := fmt.Sprint(p, m, a, from, to)
			best, found := bestRoute(l, from, to)
			want(t, what, slices.Contains(reached, to), found)
			if !found {
				wantNoWalk(t, what, p, m, a, from, to)
				seen["none"]++
				continue
			}
			wantWalk(t, what, p, m, a, from, to, best.effort, best.steps...)
			wantList(t, what, ok[[]int](t)(field.Proof(p, m, a, from, to)), proofOf(l, len(m.Cells), from)...)
			seen[fmt.Sprint(min(len(best.steps), 4), " steps")]++
			equal := 0
			routes(l, from, to, func(r route) {
				if r.effort == best.effort && len(r.steps) == len(best.steps) {
					equal++
				}
			})
			if equal > 1 {
				seen["several"]++
			}
		}
	})
	for _, what := range []string{"none", "0 steps", "1 steps", "2 steps", "3 steps", "4 steps", "several"} {
		if seen[what] < 25 {
			t.Errorf("%s: %d times", what, seen[what])
		}
	}
}

// mangledWalk changes something, so that it is no walk, or another one.
func mangledWalk(x *rand.Rand, l []step, borders int) []step {
	l = slices.Clone(l)
	if len(l) == 0 {
		return []step{{x.Intn(borders + 1), upTo(x, -1, 1)}}
	}
	i := x.Intn(len(l))
	switch x.Intn(5) {
	case 0:
		l[i].Border = upTo(x, -1, borders)
	case 1:
		l[i].Way = upTo(x, -2, 4)
	case 2:
		l = slices.Insert(l, i, l[i], l[i])
	case 3:
		l = slices.Delete(l, i, i+1)
	case 4:
		l = append(l, step{upTo(x, -1, borders), upTo(x, -1, 2)})
	}
	return l
}

func TestProveWalkMany(t *testing.T) {
	seen := map[bool]int{}
	lands(t, 907, 6000, func(x *rand.Rand, p drawing, m chart, a animal) {
		from, to := x.Intn(len(m.Cells)), x.Intn(len(m.Cells))
		steps, _, e := field.Walk(p, m, a, from, to)
		proof, _ := field.Proof(p, m, a, from, to)
		if e != api.OK {
			steps, proof = nil, make([]int, len(m.Cells))
		}
		if x.Intn(2) == 0 {
			steps = mangledWalk(x, steps, len(m.Borders))
		}
		for range x.Intn(3) {
			proof[x.Intn(len(proof))] += pick(x, -1, 1, -5, math.MinInt, math.MaxInt)
		}
		l := arcs(p, m, a)
		effort, holds := isWalk(p, m, a, from, to, steps)
		holds = holds && isProof(l, len(m.Cells), from, to, effort, proof)
		want(t, fmt.Sprint(p, m, a, from, to, steps, proof), field.ProveWalk(p, m, a, from, to, steps, proof), holds)
		seen[holds]++
	})
	if seen[true] < 500 || seen[false] < 500 {
		t.Errorf("%v", seen)
	}
}

// Maps with many cells: there is a proof exactly for what is reached.
func TestWalkWide(t *testing.T) {
	seen := map[string]int{}
	wideLands(t, 908, 60, func(x *rand.Rand, p drawing, m chart, a animal) {
		l, from := arcs(p, m, a), x.Intn(len(m.Cells))
		reached := reachedBy(l, len(m.Cells), from)
		wantReached(t, fmt.Sprint(p, m, a, from), p, m, a, from, reached...)
		for range 5 {
			to := x.Intn(len(m.Cells))
			steps, effort, e := field.Walk(p, m, a, from, to)
			if !slices.Contains(reached, to) {
				wantErr(t, "no walk", e, api.ErrNone)
				seen["none"]++
				continue
			}
			got, found := isWalk(p, m, a, from, to, steps)
			want(t, "the walk's effort", got, effort)
			want(t, "is a walk", found, true)
			proof := ok[[]int](t)(field.Proof(p, m, a, from, to))
			want(t, "is a proof", isProof(l, len(m.Cells), from, to, effort, proof), true)
			want(t, "proved", field.ProveWalk(p, m, a, from, to, steps, proof), true)
			seen["some"]++
			if len(steps) > 5 {
				seen["long"]++
			}
		}
	})
	if seen["none"] < 20 || seen["some"] < 100 || seen["long"] < 20 {
		t.Errorf("%v", seen)
	}
}

// Among many walks with the same effort and as many steps the least one: in a grid
// with equal efforts it goes to the right first, as those borders are the least.
func TestWalkGrid(t *testing.T) {
	m := grid(6, 6, 2)
	steps, effort, e := field.Walk(ladder(), m, goat, 0, 35)
	want(t, "effort and error", [2]int{effort, int(e)}, [2]int{20, 0})
	var walk []step
	for cell := 0; cell != 35; {
		i := slices.IndexFunc(m.Borders, func(b border) bool { return b.A == cell })
		walk = append(walk, step{i, 0})
		cell = m.Borders[i].B
	}
	wantList(t, "the grid", steps, walk...)
}

// P9.5: ProvePen; P9.9: pens.

func TestProvePen(t *testing.T) {
	pen := func(to bool, p drawing, m chart, a animal, cell int, l ...int) {
		t.Helper()
		want(t, fmt.Sprint("the pen ", l, " of ", cell), field.ProvePen(p, m, a, cell, l), to)
	}
	pen(true, example(), moor(0, 0), ewe, 1, 1)
	pen(true, example(), moor(0, 0), ewe, 1, 0, 1)
	pen(true, example(), moor(0, 0), ewe, 0, 0)
	pen(false, example(), moor(0, 0), ewe, 0, 1)
	pen(false, example(), moor(0, 0), ewe, 0)
	pen(false, example(), moor(0, 0), ewe, 0, 1, 0)
	pen(false, example(), moor(0, 0), ewe, 0, 0, 0)
	pen(false, example(), moor(0, 0), ewe, 0, 0, 2)
	pen(false, example(), moor(0, 0), ewe, 0, -1, 0)
	pen(false, example(), moor(0, 0), hare, 0, 0)
	pen(false, example(), moor(0, 0), hare, 1, 1)
	pen(true, example(), moor(0, 0), hare, 0, 0, 1)
	pen(true, example(), moor(400, 0), ewe, 1, 1)
	pen(false, example(), moor(400, 0), ewe, 0, 0)
	for _, n := range append([]int{-1, 2}, far...) {
		pen(false, example(), moor(0, 0), ewe, n, 0, 1)
		pen(false, example(), moor(0, 0), ewe, 0, 0, n)
		pen(false, example(), moor(0, 0), ewe, 0, n, 0)
		pen(false, example(), moor(0, 0), ewe, n, n)
	}
	m := charted(6, link(3, 0, 5), oneWay(1, 3), link(2, 4, 1), link(0, 4, 0), oneWay(5, 1))
	pen(true, ladder(), m, goat, 3, 0, 3)
	pen(true, ladder(), m, goat, 1, 0, 1, 3)
	pen(true, ladder(), m, goat, 3, 0, 2, 3, 4)
	pen(false, ladder(), m, goat, 3, 0, 2, 3)
	pen(false, ladder(), m, goat, 1, 1)
	pen(false, ladder(), m, goat, 0, 0)
	pen(true, ladder(), charted(api.MaxCells), goat, 39, 39)
}

func TestPenMany(t *testing.T) {
	seen := map[bool]int{}
	lands(t, 909, 2000, func(x *rand.Rand, p drawing, m chart, a animal) {
		l, cell := arcs(p, m, a), x.Intn(len(m.Cells))
		reached := ok[[]int](t)(field.Reached(p, m, a, cell))
		want(t, "what is reached is a pen", field.ProvePen(p, m, a, cell, reached), true)
		for set := range 1 << len(m.Cells) {
			var pen []int
			for i := range m.Cells {
				if set>>i&1 == 1 {
					pen = append(pen, i)
				}
			}
			holds := isPen(l, len(m.Cells), cell, pen)
			want(t, fmt.Sprint(p, m, a, cell, pen), field.ProvePen(p, m, a, cell, pen), holds)
			if holds {
				for _, c := range reached {
					want(t, "a pen has all of what is reached", slices.Contains(pen, c), true)
				}
			}
			seen[holds]++
		}
		mixed := rand.New(rand.NewSource(int64(cell))).Perm(len(m.Cells))
		want(t, fmt.Sprint("mixed ", mixed), field.ProvePen(p, m, a, cell, mixed), slices.IsSorted(mixed))
	})
	if seen[true] < 2000 || seen[false] < 2000 {
		t.Errorf("%v", seen)
	}
}

// P9.11: stronger animals reach as much, with no greater efforts.

func TestStronger(t *testing.T) {
	more := 0
	lands(t, 910, 3000, func(x *rand.Rand, p drawing, m chart, a animal) {
		b := animal{a.Wide - x.Intn(a.Wide+1), a.High - x.Intn(a.High+1), a.Step + x.Intn(3), a.Leap + x.Intn(3), a.Reach + x.Intn(3)}
		for from := range m.Cells {
			weak, strong := ok[[]int](t)(field.Reached(p, m, a, from)), ok[[]int](t)(field.Reached(p, m, b, from))
			for _, to := range weak {
				want(t, fmt.Sprint(p, m, a, b, from, to), slices.Contains(strong, to), true)
				_, least, _ := field.Walk(p, m, b, from, to)
				_, effort, _ := field.Walk(p, m, a, from, to)
				want(t, fmt.Sprint("the effort", p, m, a, b, from, to), least <= effort, true)
			}
			if len(strong) > len(weak) {
				more++
			}
		}
	})
	if more < 500 {
		t.Errorf("more cells: %d times", more)
	}
}
