package build_test

import (
	"fmt"
	"math/rand"
	"testing"

	"copestone/api"
	"copestone/build"
	"copestone/place"
	"copestone/plan"
)

// P7.5: Prove.

func wantProved(t *testing.T, what string, j job, w wall, courses int, is bool) {
	t.Helper()
	want(t, what, build.Prove(j, w, courses), is)
	want(t, what+", by the words", isBuilt(j, w, courses), is)
}

func TestProve(t *testing.T) {
	wantProved(t, "the example", example(), five(), 2, true)
	wantProved(t, "more than one course", example(), five(), 1, false)
	wantProved(t, "more than none", example(), five(), 0, false)
	wantProved(t, "one course", example(), onto(400, five().Stones[:2]...), 1, true)
	wantProved(t, "less than two courses", example(), onto(400, five().Stones[:2]...), 2, false)
	wantProved(t, "nothing", example(), onto(400), 0, true)
	wantProved(t, "nothing for a course", example(), onto(400), 1, false)
	wantProved(t, "the other skin", example(back), five(), 0, true)
	wantProved(t, "nothing of the other skin", example(back), five(), 1, false)
	wantProved(t, "a through", example(back), onto(400, through(five().Stones[0])), 0, false)
	nothing := example(func(j *job) { j.Wide = 400 })
	for n := range 3 {
		wantProved(t, fmt.Sprint("rests alone ", n), nothing, onto(400), n, true)
	}
	w := five()
	w.Stones[0], w.Stones[1], w.Stones[2], w.Stones[3], w.Stones[4] = w.Stones[3], w.Stones[0], w.Stones[4], w.Stones[1], w.Stones[2]
	wantProved(t, "in another order", example(), w, 2, true)
}

func TestProveNumbers(t *testing.T) {
	for _, n := range append([]int{-1, 3, 4}, far...) {
		want(t, fmt.Sprint(n), build.Prove(example(func(j *job) { j.Wide = 400 }), onto(400), n), false)
	}
	for what, j := range badJobs() {
		for n := range 3 {
			want(t, what, build.Prove(j, five(), n), false)
			want(t, what+", no stones", build.Prove(j, onto(400), n), false)
		}
	}
	for e, walls := range badWalls() {
		for _, w := range walls {
			want(t, fmt.Sprint(e, w), build.Prove(example(), w, 0), false)
			want(t, fmt.Sprint(e, w), build.Prove(example(back), w, 0), false)
		}
	}
}

func TestProveGround(t *testing.T) {
	for _, ground := range [][]point{
		path(0, 0, 401, 0), path(-1, 0, 400, 0), path(0, 0, 400, -1), path(0, -1, 400, -1), path(0, 0, 200, 0, 400, 0), path(-1, 0, 0, 0, 400, 0), path(0, 0, 400, 0, 401, 0),
	} {
		w := five()
		w.Ground = ground
		wantProved(t, fmt.Sprint(ground), example(), w, 2, false)
		wantProved(t, fmt.Sprint(ground, " alone"), example(), wall{Ground: ground}, 0, false)
	}
}

// All stones are of the heap, in both skins.
func TestProveHeap(t *testing.T) {
	changes := map[string]func(s *rock){
		"a name": func(s *rock) { s.Name = "z" }, "another's name": func(s *rock) { s.Name = "b" }, "a depth": func(s *rock) { s.Depth++ }, "a density": func(s *rock) { s.Density++ }, "a grain": func(s *rock) { s.Grain = at(2, 0) },
		"a shape": func(s *rock) { s.Shape = path(0, 0, 99, 0, 99, 80, 0, 80) }, "a corner": func(s *rock) { s.Shape = path(0, 0, 100, 0, 100, 40, 99, 80, 0, 80) }, "no corner": func(s *rock) { s.Shape = path(0, 0, 100, 0, 100, 80) },
	}
	for what, change := range changes {
		w := five()
		change(&w.Stones[2].Stone)
		wantProved(t, what, example(func(j *job) { j.Wide = 1 }), w, 2, false)
		w = onto(400, in(place.Back, put(bricks()[2], 0, 0)))
		wantProved(t, what+" as it was", example(), w, 0, true)
		change(&w.Stones[0].Stone)
		wantProved(t, what+" in the other skin", example(), w, 0, false)
	}
	wantProved(t, "less of a heap", example(heaped(bricks()[1:]...)), five(), 2, false)
	wantProved(t, "more of a heap", example(heaped(append(bricks(), box("f", 5, 5))...)), five(), 2, true)
	w := onto(400, five().Stones[:2]...)
	w.Stones = append(w.Stones, in(place.Back, put(bricks()[2], 77, 55)), in(place.Back, turned(3, put(bricks()[3], 300, 300))))
	wantProved(t, "anywhere in the other skin", example(), w, 1, true)
}

// Stones reach from F - Level to F, and from T - Level to T; here from 3 and 6.
func TestProveHeights(t *testing.T) {
	for level := range 3 {
		for from := 1; from < 5; from++ {
			for to := from + 1; to < 9; to++ {
				base, s := box("m", 9, from), box("a", 9, to-from)
				w := onto(9, put(base, 0, 0), put(s, 0, from))
				low := from <= 3 && from >= 3-level
				j := small(9, 2, heaped(s, base), func(j *job) { j.Level = level })
				wantProved(t, fmt.Sprint(level, from, to), j, w, 2, low && to <= 6 && to >= 6-level)
				wantProved(t, fmt.Sprint(level, from, " alone"), j, onto(9, put(base, 0, 0)), 1, low)
			}
		}
	}
	// From 0 on, over the ground.
	s := box("a", 9, 3)
	for z := range 3 {
		j := small(9, 1, heaped(s), func(j *job) { j.Level, j.Pin = 2, 9 })
		wantProved(t, fmt.Sprint("over the ground ", z), j, onto(9, put(s, 0, z)), 1, z == 0)
	}
}

func TestProveBays(t *testing.T) {
	smoot := opened(opening{Kind: plan.Smoot, At: 3, Width: 2, High: 3})
	a, b, c, d := box("a", 3, 3), box("b", 4, 3), box("c", 5, 3), box("d", 9, 3)
	j := small(9, 2, smoot, heaped(a, b, c, d))
	wantProved(t, "beside a smoot", j, onto(9, put(a, 0, 0), put(b, 5, 0)), 1, true)
	wantProved(t, "over a smoot", j, onto(9, put(a, 0, 0), put(b, 5, 0), put(d, 0, 3)), 2, true)
	j.Wide = 3
	wantProved(t, "a rest at a smoot", j, onto(9, put(b, 5, 0)), 1, true)
	wantProved(t, "a stone that reaches into a smoot", j, onto(9, put(b, 0, 0), put(box("e", 4, 3), 5, 0)), 1, false)
	wantProved(t, "from the other side", j, onto(9, put(a, 0, 0), put(c, 4, 0)), 1, false)
	wantProved(t, "over it all", j, onto(9, put(d, 0, 0)), 1, false)
	wantProved(t, "in a smoot", changed(j, heaped(box("e", 2, 3))), onto(9, put(box("e", 2, 3), 3, 0)), 1, false)
	wantProved(t, "in a smoot, in the other skin", changed(j, heaped(b, box("e", 2, 3))), onto(9, put(b, 5, 0), in(place.Back, put(box("e", 2, 3), 3, 0))), 1, true)
}

func TestProveWide(t *testing.T) {
	a, b := box("a", 4, 3), box("b", 4, 3)
	for wide := range 7 {
		j := small(12, 1, heaped(a, b), func(j *job) { j.Wide = wide })
		for x := range 9 {
			wantProved(t, fmt.Sprint(wide, x), j, onto(12, put(a, x, 0)), 1, x <= wide && 8-x <= wide)
			if x >= 4 {
				wantProved(t, fmt.Sprint(wide, x, " beside another one"), j, onto(12, put(a, x, 0), put(b, 0, 0)), 1, x-4 <= wide && 8-x <= wide)
			}
		}
	}
	// Stones of another course fill nothing.
	tall := box("t", 5, 6)
	j := small(10, 2, heaped(tall, box("a", 5, 3), box("c", 5, 3)))
	wantProved(t, "a tall stone", j, onto(10, put(tall, 0, 0), put(box("a", 5, 3), 5, 0), put(box("c", 5, 3), 5, 3)), 2, false)
}

// There is one at 2, and a width of 300.
func TestProveThroughs(t *testing.T) {
	throughs := sheeted(func(s *sheet) { s.Every = 4 })
	for _, c := range []struct {
		depth, x int
		skin     uint8
		is       bool
	}{
		{300, 0, place.Through, true}, {300, 2, place.Through, true}, {301, 1, place.Through, true}, {300, 3, place.Through, false}, {299, 2, place.Through, false}, {300, 1, place.Front, false}, {300, 1, place.Back, false},
	} {
		s := deep(c.depth, box("a", 2, 3))
		j := small(6, 1, throughs, heaped(s), func(j *job) { j.Wide = 6 })
		wantProved(t, fmt.Sprint(c), j, onto(6, in(c.skin, put(s, c.x, 0))), 1, c.is)
	}
	// None is asked for above, below the height, or up to no course; what there is must be deep.
	for _, c := range []struct {
		depth, at, courses int
		is                 bool
	}{{300, 0, 2, false}, {300, 1, 2, false}, {300, 1, 1, true}, {300, 4, 2, true}, {299, 4, 2, true}, {301, 4, 2, false}} {
		a, b := deep(c.depth, box("a", 6, 3)), box("b", 6, 3)
		j := small(6, 2, heaped(a, b), sheeted(func(s *sheet) { s.Every, s.At = 4, c.at }))
		w := onto(6, put(a, 0, 0), put(b, 0, 3))
		w.Stones = w.Stones[:c.courses]
		wantProved(t, fmt.Sprint(c), j, w, c.courses, c.is)
	}
	wantProved(t, "through all the same", small(6, 1, heaped(deep(300, box("a", 6, 3)))), onto(6, through(put(deep(300, box("a", 6, 3)), 0, 0))), 1, true)
	wantProved(t, "not deep enough all the same", small(6, 1, heaped(deep(299, box("a", 6, 3)))), onto(6, through(put(deep(299, box("a", 6, 3)), 0, 0))), 1, false)
}

// With a batter the width at the lower end of the upper course is 298.
func TestProveWidth(t *testing.T) {
	for depth := 296; depth < 302; depth++ {
		for _, skin := range []uint8{place.Front, place.Through} {
			s, base := deep(depth, box("a", 4, 3)), deep(300, box("b", 4, 3))
			j := small(4, 2, heaped(s, base), sheeted(func(s *sheet) { s.Batter = 500 }))
			is := depth <= 298
			if skin == place.Through {
				is = depth >= 298
			}
			wantProved(t, fmt.Sprint(depth, skin), j, onto(4, in(skin, put(base, 0, 0)), in(skin, put(s, 0, 3))), 2, is)
		}
	}
}

func TestProveBonds(t *testing.T) {
	for lap, is := range map[int]bool{0: true, 50: true, 100: true, 101: false, 500: false} {
		wantProved(t, fmt.Sprint("lap ", lap), example(sheeted(func(s *sheet) { s.Lap = lap })), five(), 2, is)
	}
	l := bricks()
	pile := onto(400, put(l[0], 0, 0), put(l[1], 200, 0), put(l[4], 0, 80), put(box("f", 200, 80), 200, 80))
	heap := heaped(append(l, box("f", 200, 80))...)
	// Only with a Lap of 0 no stone of a pile is short; and then no joint follows another one.
	wantProved(t, "a pile", example(heap), pile, 2, false)
	wantProved(t, "a pile with long runs", example(heap, sheeted(func(s *sheet) { s.Run = 2 })), pile, 2, false)
	wantProved(t, "a pile without laps", example(heap, sheeted(func(s *sheet) { s.Lap = 0 })), pile, 2, true)
	// A joint that is 4 high, where a course is 3 high.
	for run := 1; run < 3; run++ {
		m, c, d := box("m", 10, 2), box("c", 5, 4), box("d", 5, 4)
		j := small(10, 2, heaped(m, c, d), func(j *job) { j.Level = 1 }, sheeted(func(s *sheet) { s.Run = run }))
		wantProved(t, fmt.Sprint("runs ", run), j, onto(10, put(m, 0, 0), put(c, 0, 2), put(d, 5, 2)), 2, run == 2)
	}
	// Stones are traced, and uneven, as they like.
	m, c, d := box("m", 10, 2), box("c", 5, 3), box("d", 5, 4)
	j := small(10, 2, heaped(m, deep(1, c), d), func(j *job) { j.Level = 1 })
	wantProved(t, "traced and uneven", j, onto(10, put(m, 0, 0), put(deep(1, c), 0, 2), put(d, 5, 2)), 2, true)
}

func TestProveStands(t *testing.T) {
	a, b := box("a", 10, 3), box("b", 10, 3)
	j := small(20, 2, heaped(a, b), func(j *job) { j.Wide = 20 })
	for x := range 11 {
		wantProved(t, fmt.Sprint("at ", x), j, onto(20, put(a, 5, 0), put(b, x, 3)), 2, x <= 10)
	}
	wantProved(t, "too far", j, onto(20, put(a, 0, 0), put(b, 6, 3)), 2, false)
	wantProved(t, "in the air", j, onto(20, put(b, 6, 3)), 2, false)
	wantProved(t, "in the air, in the other skin", j, onto(20, put(a, 0, 0), in(place.Back, put(b, 6, 3))), 1, true)
	pins := changed(j, func(j *job) { j.Pin = 3 })
	wantProved(t, "over pins", pins, onto(20, put(b, 6, 3)), 2, true)
}

func TestProveMany(t *testing.T) {
	seen := map[bool]int{}
	spoilt := map[bool]int{}
	randomSites(t, 79, 2500, func(_ *rand.Rand, j job, w wall) {
		for n := range len(coursesOf(j)) + 1 {
			is := isBuilt(j, w, n)
			wantKept(t, "Prove", j, w, func() { wantProved(t, fmt.Sprint(j, w, n), j, w, n, is) })
			seen[is]++
			if n > 0 {
				spoilt[is]++
			}
		}
	})
	if seen[true] < 1000 || seen[false] < 1000 || spoilt[true] < 400 {
		t.Error(seen, spoilt)
	}
}

// P7.7: what Build returns for one skin is built.
func TestProveBuilt(t *testing.T) {
	x := rand.New(rand.NewSource(80))
	high := 0
	for n := range 1000 {
		j := randomJob(x)
		if n%4 == 0 {
			j = tightJob(x)
		}
		w, courses, _, e := build.Build(j, false)
		wantErr(t, "Build", e, api.OK)
		wantProved(t, fmt.Sprint(j), j, w, courses, true)
		if courses > 1 {
			high++
		}
	}
	if high < 200 {
		t.Errorf("%d high walls", high)
	}
}

// P7.11: in both skins as well; both have the same through stones.
func TestProveBoth(t *testing.T) {
	x := rand.New(rand.NewSource(81))
	built, joined := 0, 0
	for n := range 1500 {
		j := randomJob(x)
		if n%4 == 0 {
			j = tightJob(x)
		}
		w, courses, _, e := build.Build(j, true)
		wantErr(t, "Build", e, api.OK)
		other := j
		other.Skin = place.Front + place.Back - j.Skin
		wantProved(t, fmt.Sprint(j), j, w, courses, true)
		wantProved(t, fmt.Sprint(other), other, w, courses, true)
		for _, p := range w.Stones {
			if p.Skin == place.Through {
				joined++
			}
		}
		if courses > 0 {
			built++
		}
		for course := range courses {
			wantList(t, "open throughs", openIn(j, w, course))
			wantList(t, "open throughs of the other skin", openIn(other, w, course))
		}
	}
	if built < 200 || joined < 100 {
		t.Errorf("%d walls, %d throughs", built, joined)
	}
}
