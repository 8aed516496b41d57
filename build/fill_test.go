package build_test

import (
	"fmt"
	"math/rand"
	"slices"
	"testing"

	"copestone/api"
	"copestone/build"
	"copestone/place"
	"copestone/plan"
	"copestone/stone"
)

// P7.3: Fill.

func wantFilling(t *testing.T, what string, j job, w wall, course, tries int, stones ...placed) {
	t.Helper()
	next, n, e := build.Fill(j, w, course)
	wantErr(t, what, e, api.OK)
	want(t, what+": tries", n, tries)
	wantWall(t, what, next, wall{Ground: w.Ground, Stones: slices.Concat(w.Stones, stones)})
}

func wantNone(t *testing.T, what string, j job, w wall, course int, e api.Errno) {
	t.Helper()
	next, n, got := build.Fill(j, w, course)
	want(t, what, []any{copied(next), n, got}, []any{wall{}, 0, e})
}

func TestFill(t *testing.T) {
	l := five().Stones
	wantFilling(t, "the first course", example(), onto(400), 0, 2, l[:2]...)
	wantFilling(t, "the second course", example(), onto(400, l[:2]...), 1, 4, l[2:]...)
	j := example(back)
	wantFilling(t, "the back", j, onto(400, l[:2]...), 0, 3, in(place.Back, put(bricks()[2], 0, 0)), in(place.Back, put(bricks()[3], 100, 0)), in(place.Back, put(bricks()[4], 200, 0)))
}

// In its order: by stones, then by ways; what is laid too early is taken away.
func TestFillOrder(t *testing.T) {
	a, b, c := box("a", 2, 3), box("b", 2, 3), box("c", 3, 3)
	wantFilling(t, "one stone", small(2, 1, heaped(c, b, a)), onto(2), 0, 1, put(b, 0, 0))
	wantFilling(t, "the next one", small(5, 1, heaped(a, b, c)), onto(5), 0, 3, put(a, 0, 0), put(c, 2, 0))
	wantFilling(t, "the other way round", small(5, 1, heaped(c, b, a)), onto(5), 0, 2, put(c, 0, 0), put(b, 3, 0))
	wantFilling(t, "far back", small(6, 1, heaped(box("d", 1, 3), a, c, box("e", 4, 3))), onto(6), 0, 3, put(box("d", 1, 3), 0, 0), put(a, 1, 0), put(c, 3, 0))
	wantFilling(t, "as far back as may be", small(7, 1, heaped(a, b, c, box("e", 4, 3))), onto(7), 0, 3, put(a, 0, 0), put(b, 2, 0), put(c, 4, 0))
	// a, ab, ac, ad, b, ba, bc, bd, c, ca, cb, cd.
	wantFilling(t, "the last ones", small(10, 1, heaped(box("a", 4, 3), box("b", 4, 3), box("c", 5, 3), box("d", 5, 3))), onto(10), 0, 12, put(box("c", 5, 3), 0, 0), put(box("d", 5, 3), 5, 0))
	wantNone(t, "no stone", small(2, 1), onto(2), 0, api.ErrVoid)
	wantNone(t, "no stone that fits", small(4, 1, heaped(a, c)), onto(4), 0, api.ErrVoid)
	upright := box("a", 3, 7)
	wantFilling(t, "another way", small(7, 1, heaped(upright)), onto(7), 0, 1, turned(1, put(upright, 0, 0)))
	cut := shaped("a", path(0, 0, 3, 0, 3, 5, 0, 7)...)
	wantFilling(t, "the first one of two ways", small(7, 1, heaped(cut)), onto(7), 0, 1, turned(1, put(cut, 0, 0)))
}

// A way that makes a stone equal to itself in an earlier one is no try: so many
// tries fail before the last stone, as all are too high.
func TestFillWays(t *testing.T) {
	last := box("z", 4, 3)
	for name, c := range map[string]struct {
		s     rock
		tries int
	}{
		"a square": {box("a", 4, 4), 1}, "a box": {box("a", 3, 4), 1}, "a trapezium": {shaped("a", path(0, 0, 4, 0, 3, 4, 1, 4)...), 4}, "a triangle": {corner("a", 4, 4), 4},
		"a parallelogram": {shaped("a", path(0, 0, 3, 0, 4, 4, 1, 4)...), 4}, "an odd stone": {odd("a"), 8}, "a rhombus": {shaped("a", path(2, 0, 4, 2, 2, 4, 0, 2)...), 1},
	} {
		j := small(4, 1, heaped(c.s, last), func(j *job) { j.Level = 1 })
		if name == "a box" { // the other way is as high as the course
			j = small(2, 1, heaped(c.s, box("z", 2, 3)), func(j *job) { j.Level = 1 })
			wantFilling(t, name, j, onto(2), 0, 1, put(box("z", 2, 3), 0, 0))
			continue
		}
		wantFilling(t, name, j, onto(4), 0, c.tries+1, put(last, 0, 0))
	}
	// The grain does not matter.
	s := box("a", 4, 4)
	s.Grain = at(3, 5)
	wantFilling(t, "a grain", small(4, 1, heaped(s, last), func(j *job) { j.Level = 1 }), onto(4), 0, 2, put(last, 0, 0))
}

// A stone is tried from T - F - Level to T - F + Level, and laid up to T.
func TestFillHeights(t *testing.T) {
	last := box("z", 9, 3)
	for level := range 3 {
		for high := 1; high < 8; high++ {
			s := box("a", 9, high)
			j := small(9, 1, heaped(s, last), func(j *job) { j.Level = level })
			switch {
			case high < 3-level || high > 3+level:
				wantFilling(t, fmt.Sprint("no try ", level, high), j, onto(9), 0, 1, put(last, 0, 0))
			case high > 3:
				wantFilling(t, fmt.Sprint("in vain ", level, high), j, onto(9), 0, 2, put(last, 0, 0))
			default:
				wantFilling(t, fmt.Sprint("laid ", level, high), j, onto(9), 0, 1, put(s, 0, 0))
			}
		}
	}
}

// A stone comes to lie from F - Level to F, and up to T: here they are 3 and 6.
func TestFillDepths(t *testing.T) {
	for level := range 3 {
		for low := range 4 {
			for high := 1; high < 8; high++ {
				base := onto(9)
				if low > 0 {
					base = onto(9, put(box("base", 9, low), 0, 0))
				}
				s, what := box("a", 9, high), fmt.Sprint(level, low, high)
				j := small(9, 2, heaped(s), func(j *job) { j.Level = level })
				isTry, top := 3-level <= high && high <= 3+level, low+high
				if isTry && 3-level <= low && 6-level <= top && top <= 6 {
					wantFilling(t, what, j, base, 1, 1, put(s, 0, low))
				} else {
					wantNone(t, what, j, base, 1, api.ErrVoid)
				}
			}
		}
	}
	// A through comes to lie on the other skin.
	for low := 1; low < 6; low++ {
		s := deep(300, box("a", 9, 3))
		j := small(9, 2, heaped(s), sheeted(func(s *sheet) { s.Every, s.At = 9, 3 }), func(j *job) { j.Pin = 50 })
		base := onto(9, in(place.Back, put(box("base", 9, low), 0, 0)), put(box("m", 9, 1), 0, 0))
		if low == 3 {
			wantFilling(t, fmt.Sprint("a through ", low), j, base, 1, 1, through(put(s, 0, 3)))
		} else {
			wantNone(t, fmt.Sprint("a through ", low), j, base, 1, api.ErrVoid)
		}
	}
	// Into a dip of the ground, and over a hump.
	dip := wall{Ground: path(0, 0, 2, 0, 3, -1, 9, -1, 10, 0, 12, 0)}
	hump := wall{Ground: path(0, 0, 2, 0, 3, 1, 9, 1, 10, 0, 12, 0)}
	s := box("a", 6, 4)
	smoots := opened(opening{Kind: plan.Smoot, Width: 3, High: 3}, opening{Kind: plan.Smoot, At: 9, Width: 3, High: 3})
	wantFilling(t, "a dip", small(12, 1, smoots, heaped(s), func(j *job) { j.Level = 1 }), dip, 0, 1, put(s, 3, -1))
	wantNone(t, "a dip, without Level", small(12, 1, smoots, heaped(box("a", 6, 3))), dip, 0, api.ErrVoid)
	wantNone(t, "a hump", small(12, 1, smoots, heaped(box("a", 6, 2)), func(j *job) { j.Level = 1 }), hump, 0, api.ErrVoid)
}

func TestFillWide(t *testing.T) {
	a, c := box("a", 2, 3), box("c", 3, 3)
	wide := func(wide int) func(j *job) { return func(j *job) { j.Wide = wide } }
	wantFilling(t, "a rest", small(6, 1, heaped(a, c), wide(1)), onto(6), 0, 2, put(a, 0, 0), put(c, 2, 0))
	wantNone(t, "too long a rest", small(7, 1, heaped(a, c), wide(1)), onto(7), 0, api.ErrVoid)
	wantFilling(t, "a longer rest", small(7, 1, heaped(a, c), wide(2)), onto(7), 0, 2, put(a, 0, 0), put(c, 2, 0))
	wantFilling(t, "as soon as it can be", small(5, 1, heaped(a, c), wide(3)), onto(5), 0, 1, put(a, 0, 0))
	wantFilling(t, "nothing", small(5, 1, heaped(a, c), wide(5)), onto(5), 0, 0)
	// Each part has a rest of its own.
	w := onto(14, put(box("m", 3, 3), 4, 0), put(box("n", 1, 3), 9, 0))
	wantFilling(t, "parts", small(14, 1, heaped(a, c, box("b", 4, 3)), wide(2)), w, 0, 2, put(a, 0, 0), put(c, 10, 0))
	wantFilling(t, "bays", small(9, 1, opened(opening{Kind: plan.Smoot, At: 4, Width: 1, From: 2, High: 1}), heaped(a, box("b", 4, 3), box("d", 2, 3))), onto(9), 0, 3, put(a, 0, 0), put(box("d", 2, 3), 2, 0), put(box("b", 4, 3), 5, 0))
}

func TestFillUsed(t *testing.T) {
	a, b := box("a", 4, 3), box("b", 4, 3)
	wantFilling(t, "in the course", small(8, 1, heaped(a, b)), onto(8, put(a, 0, 0)), 0, 1, put(b, 4, 0))
	wantFilling(t, "in the other skin", small(4, 1, heaped(a, b)), onto(4, in(place.Back, put(a, 0, 0))), 0, 1, put(b, 0, 0))
	wantFilling(t, "another one of its name", small(4, 1, heaped(a, b)), onto(4, in(place.Back, put(box("a", 1, 1), 0, 0))), 0, 1, put(b, 0, 0))
	wantNone(t, "all of them", small(8, 1, heaped(a, b)), onto(8, put(a, 0, 0), in(place.Back, put(b, 0, 0))), 0, api.ErrVoid)
}

// What place.Drop cannot move is not laid.
func TestFillDrop(t *testing.T) {
	a := box("a", 4, 3)
	wantNone(t, "below a stone", small(4, 1, heaped(a)), onto(4, put(box("m", 4, 1), 0, 4)), 0, api.ErrVoid)
	wantNone(t, "a through", small(4, 1, heaped(deep(300, a)), sheeted(func(s *sheet) { s.Every = 2 })), onto(4, in(place.Back, put(box("m", 4, 1), 0, 4))), 0, api.ErrVoid)
	wantNone(t, "the ground ends", small(4, 1, heaped(a)), onto(3), 0, api.ErrVoid)
	wantNone(t, "no ground", small(4, 1, heaped(a)), wall{Ground: path(50, 0, 60, 0)}, 0, api.ErrVoid)
	wantNone(t, "below a slope", small(4, 1, heaped(a)), onto(8, turned(2, put(corner("m", 4, 9), 3, 0))), 0, api.ErrVoid)
	wantFilling(t, "in the other skin", small(4, 1, heaped(a)), onto(4, in(place.Back, put(box("m", 4, 1), 0, 4))), 0, 1, put(a, 0, 0))
}

func TestFillBonds(t *testing.T) {
	// A joint that is higher than Run, wherever it is, lets nothing be laid.
	pair := row(0, 0, box("m", 1, 6), box("n", 1, 6))
	j := small(6, 2, heaped(box("a", 4, 3)), sheeted(func(s *sheet) { s.Run = 1 }))
	wantNone(t, "a high joint", j, onto(6, pair...), 0, api.ErrVoid)
	j = small(6, 2, heaped(box("a", 4, 3)), sheeted(func(s *sheet) { s.Run = 2 }))
	wantFilling(t, "as high as may be", j, onto(6, pair...), 0, 1, put(box("a", 4, 3), 2, 0))
	// Nor does a stone that would make one: here 4 high, where a course is 3 high.
	for run := 1; run < 3; run++ {
		c, d := box("c", 5, 4), box("d", 5, 4)
		j := small(10, 2, heaped(c, d), func(j *job) { j.Level = 1 }, sheeted(func(s *sheet) { s.Run = run }))
		w := onto(10, put(box("m", 10, 2), 0, 0))
		if run == 1 {
			wantNone(t, "a joint that is too high", j, w, 1, api.ErrVoid)
		} else {
			wantFilling(t, "a high joint that may be", j, w, 1, 2, put(c, 0, 2), put(d, 5, 2))
		}
	}
	// No stone may reach too little over a joint.
	base := row(0, 0, box("m", 5, 3), box("n", 5, 3))
	short := func(lap int) job {
		return small(10, 2, heaped(box("a", 5, 3), box("b", 6, 3), box("c", 4, 3), box("d", 3, 3), box("e", 7, 3)), sheeted(func(s *sheet) { s.Lap = lap }))
	}
	wantFilling(t, "no lap", short(0), onto(10, base...), 1, 5, put(box("b", 6, 3), 0, 3), put(box("c", 4, 3), 6, 3))
	wantFilling(t, "a lap of 1", short(1), onto(10, base...), 1, 3, put(box("b", 6, 3), 0, 3), put(box("c", 4, 3), 6, 3))
	wantFilling(t, "a lap of 2", short(2), onto(10, base...), 1, 11, put(box("d", 3, 3), 0, 3), put(box("e", 7, 3), 3, 3))
	wantNone(t, "a lap of 3", short(3), onto(10, base...), 1, api.ErrVoid)
}

func TestFillThroughs(t *testing.T) {
	// There is one at 2, and a width of 300.
	throughs := sheeted(func(s *sheet) { s.Every = 4 })
	fill := func(what string, tries int, l ...placed) {
		t.Helper()
		var heap []rock
		for _, p := range l {
			heap = append(heap, p.Stone)
		}
		wantFilling(t, what, small(6, 1, throughs, heaped(append(heap, box("y", 1, 1))...)), onto(6), 0, tries, l...)
	}
	a, b, c := box("a", 1, 3), box("b", 2, 3), box("c", 3, 3)
	fill("in the middle", 3, put(a, 0, 0), through(put(deep(300, b), 1, 0)), put(c, 3, 0))
	fill("at its right end", 2, through(put(deep(300, b), 0, 0)), put(box("d", 4, 3), 2, 0))
	left := onto(6, put(b, 0, 0))
	wantFilling(t, "at its left end", small(6, 1, throughs, heaped(deep(299, box("d", 4, 3)), deep(300, box("e", 4, 3)))), left, 0, 1, through(put(deep(300, box("e", 4, 3)), 2, 0)))
	fill("over all", 1, through(put(deep(2000, box("a", 6, 3)), 0, 0)))
	wantNone(t, "not deep enough", small(6, 1, throughs, heaped(deep(299, box("a", 6, 3)))), onto(6), 0, api.ErrVoid)
	fill("one is enough", 2, through(put(deep(300, b), 0, 0)), put(deep(300, box("d", 4, 3)), 2, 0))
	has := onto(6, through(put(b, 1, 0)), put(a, 0, 0))
	wantFilling(t, "deep enough for a skin", small(6, 1, throughs, heaped(deep(300, c))), has, 0, 1, put(deep(300, c), 3, 0))
	wantNone(t, "too deep for a skin", small(6, 1, throughs, heaped(deep(301, c))), has, 0, api.ErrVoid)
	// Wrong depths are no tries.
	l := []rock{a, deep(299, box("k", 1, 3)), deep(299, box("m", 2, 3)), deep(300, box("n", 2, 3)), c}
	wantFilling(t, "tries", small(6, 1, throughs, heaped(l...)), onto(6), 0, 4, put(a, 0, 0), through(put(l[3], 1, 0)), put(l[1], 3, 0), put(l[2], 4, 0))
	// One for two places, at 1 and 3.
	two := []rock{deep(300, box("a", 2, 3)), deep(300, box("b", 4, 3)), deep(300, box("c", 1, 3))}
	wantFilling(t, "two", small(4, 1, sheeted(func(s *sheet) { s.Every = 2 }), heaped(two...)), onto(4), 0, 3, through(put(two[1], 0, 0)))
}

func TestFillOpenThroughs(t *testing.T) {
	throughs := sheeted(func(s *sheet) { s.Every = 4 })
	heap := heaped(deep(300, box("a", 3, 3)))
	wantNone(t, "covered by the skin", small(6, 1, throughs, heap), onto(6, put(box("m", 2, 3), 1, 0)), 0, api.ErrVoid)
	wantNone(t, "in no way", small(6, 1, throughs, heap, func(j *job) { j.Wide = 3 }), onto(6, put(box("m", 3, 3), 0, 0)), 0, api.ErrVoid)
	wantFilling(t, "filled", small(6, 1, throughs, heap, func(j *job) { j.Wide = 3 }), onto(6, through(put(box("m", 3, 3), 0, 0))), 0, 0)
	wantFilling(t, "by the end of a stone", small(6, 1, throughs, heaped(box("a", 2, 3))), onto(6, through(put(box("m", 1, 3), 2, 0)), put(box("n", 3, 3), 3, 0)), 0, 1, put(box("a", 2, 3), 0, 0))
}

// With a batter the width at the lower end of the upper course is 298.
func TestFillWidth(t *testing.T) {
	for depth := 296; depth < 302; depth++ {
		for every := range 2 {
			for course, width := range []int{300, 298} {
				s := deep(depth, box("a", 4, 3))
				j := small(4, 2, heaped(s), sheeted(func(s *sheet) { s.Batter, s.Every, s.At = 500, 4*every, 3*every*course }))
				w := onto(4)
				if course == 1 {
					w = onto(4, put(box("m", 4, 3), 0, 0), in(place.Back, put(box("n", 4, 3), 0, 0)))
				}
				what := fmt.Sprint(depth, every, course)
				switch {
				case every == 0 && depth <= width:
					wantFilling(t, what, j, w, course, 1, put(s, 0, 3*course))
				case every == 1 && depth >= width:
					wantFilling(t, what, j, w, course, 1, through(put(s, 0, 3*course)))
				default:
					wantNone(t, what, j, w, course, api.ErrVoid)
				}
			}
		}
	}
}

// A filling has to stand.
func TestFillStands(t *testing.T) {
	j := small(10, 2, heaped(box("a", 10, 3), box("b", 9, 3), box("c", 8, 3), box("d", 7, 3)), func(j *job) { j.Wide = 6 })
	wantFilling(t, "a stone that tips", j, onto(10, put(box("m", 4, 3), 0, 0)), 1, 3, put(box("c", 8, 3), 0, 3))
	hangs := onto(10, put(box("m", 10, 3), 0, 5))
	wantNone(t, "a stone that hangs", small(10, 2, func(j *job) { j.Wide = 10 }), hangs, 0, api.ErrVoid)
	wantFilling(t, "in the other skin", small(10, 2, back, func(j *job) { j.Wide = 10 }), hangs, 0, 0)
	wantFilling(t, "over pins", small(10, 2, func(j *job) { j.Wide, j.Pin = 10, 5 }), hangs, 0, 0)
	slope := wall{Ground: path(0, 0, 10, 2)}
	lies := heaped(shaped("a", path(0, 0, 10, 2, 10, 4, 0, 4)...), turned(6, put(shaped("b", path(0, 0, 10, 0, 10, 2, 0, 4)...), 0, 0)).Stone)
	friction := func(low int) job {
		return small(10, 1, lies, sheeted(func(s *sheet) { s.Height, s.Heights, s.Low = 4, []int{4}, low }))
	}
	wantNone(t, "too little friction", friction(199), slope, 0, api.ErrVoid)
	wantFilling(t, "enough friction", friction(200), slope, 0, 1, put(friction(0).Heap[0], 0, 0))
}

// A course without free parts has one filling, or none.
func TestFillNothing(t *testing.T) {
	wantFilling(t, "full", example(), five(), 0, 0)
	wantFilling(t, "full above", example(), five(), 1, 0)
	wantNone(t, "not bonded", example(sheeted(func(s *sheet) { s.Lap = 101 })), five(), 1, api.ErrVoid)
	gate := opened(opening{Kind: plan.Gate, Width: 400, High: 160})
	wantFilling(t, "a gate alone", example(gate), onto(400), 1, 0)
}

// Three stones can be laid, in any order, beside others that cannot: in each of 16
// states of the course what is left is tried.
const statesOfThree, laidOfThree = 16, 3 + 3*2 + 3*2*1

// P7.3, ErrLimit: 400 tries may be made. A stone 20 wide fits only the empty course.
func TestFillLimit(t *testing.T) {
	var shapes [][]point
	for way := range 8 {
		s := ok[rock](t)(stone.Turned(odd("a"), way))
		if slices.ContainsFunc(shapes, func(shape []point) bool { return slices.Equal(shape, s.Shape) }) {
			t.Fatal("the odd stone is not odd")
		}
		shapes = append(shapes, s.Shape)
	}
	heap := append(many("g", 3, 1, 3), odd("o1"), odd("o2"), odd("o3"))
	want(t, "tries", laidOfThree+statesOfThree*3*8, 399)
	job := func(more ...rock) job {
		return small(20, 1, heaped(slices.Concat(heap, more)...), func(j *job) { j.Level = 1 })
	}
	fits := box("z", 20, 3)
	wantNone(t, "399 tries", job(), onto(20), 0, api.ErrVoid)
	wantNone(t, "400 tries", job(box("x", 20, 4)), onto(20), 0, api.ErrVoid)
	wantFilling(t, "the last try", job(fits), onto(20), 0, 400, put(fits, 0, 0))
	wantNone(t, "401 tries", job(box("x", 20, 4), box("y", 20, 4)), onto(20), 0, api.ErrLimit)
	wantNone(t, "too late", job(box("x", 20, 4), fits), onto(20), 0, api.ErrLimit)
	// Each course, and each call, has its own tries.
	two := job(fits)
	two.Plan = small(20, 2).Plan
	wantFilling(t, "another course", two, onto(20, put(box("m", 20, 3), 0, 0)), 1, 400, put(fits, 0, 3))
}

// No wall has more than MaxWall stones.
func TestFillGreatest(t *testing.T) {
	for count := api.MaxWall - 2; count <= api.MaxWall; count++ {
		w := onto(3000, row(2, 0, many("m", count, 9, 3)...)...)
		j := small(9*count+2, 1, heaped(box("a", 2, 3), box("b", 1, 3), box("c", 1, 3)))
		if count == api.MaxWall {
			wantNone(t, fmt.Sprint(count), j, w, 0, api.ErrVoid)
		} else {
			wantFilling(t, fmt.Sprint(count), j, w, 0, 1, put(box("a", 2, 3), 0, 0))
		}
	}
}

// wantFirst compares with the slow way. It returns the error, and how many tries
// were in vain.
func wantFirst(t *testing.T, j job, w wall, course int) (e api.Errno, vain int) {
	t.Helper()
	what := fmt.Sprint(j, w, course)
	next, n, e := build.Fill(j, w, course)
	slowNext, slowN, slowE := fillOf(j, w, course)
	want(t, what, []any{n, e}, []any{slowN, slowE})
	wantWall(t, what, next, slowNext)
	return e, n - (len(next.Stones) - len(w.Stones))
}

func TestFillMany(t *testing.T) {
	seen := map[api.Errno]int{}
	searched := 0
	randomSites(t, 73, 1200, func(_ *rand.Rand, j job, w wall) {
		for course := range coursesOf(j) {
			wantKept(t, "Fill", j, w, func() {
				e, vain := wantFirst(t, j, w, course)
				seen[e]++
				if e == api.OK && vain > 0 {
					searched++
				}
			})
		}
	})
	if seen[api.OK] < 500 || seen[api.ErrVoid] < 500 || seen[api.ErrLimit] < 10 || searched < 100 {
		t.Errorf("%v, %d with tries in vain", seen, searched)
	}
}
