package build_test

import (
	"fmt"
	"math/rand"
	"testing"

	"copestone/api"
	"copestone/build"
	"copestone/place"
	"copestone/plan"
	"copestone/stone"
)

// P7.4: Build.

func wantBuilt(t *testing.T, what string, j job, both bool, w wall, courses int, why api.Errno) {
	t.Helper()
	got, n, because, e := build.Build(j, both)
	want(t, what, []any{n, because, e}, []any{courses, why, api.OK})
	wantWall(t, what, got, w)
}

func TestBuild(t *testing.T) {
	wantBuilt(t, "the example", example(), false, five(), 2, api.OK)
	l := bricks()
	both := onto(400, put(l[0], 0, 0), put(l[1], 200, 0), in(place.Back, put(l[2], 0, 0)), in(place.Back, put(l[3], 100, 0)), in(place.Back, put(l[4], 200, 0)))
	wantBuilt(t, "both skins", example(), true, both, 1, api.ErrVoid)
	for i := range both.Stones {
		both.Stones[i].Skin = place.Front + place.Back - both.Stones[i].Skin
	}
	wantBuilt(t, "both skins, the back first", example(back), true, both, 1, api.ErrVoid)
	wantBuilt(t, "no heap", example(heaped()), false, onto(400), 0, api.ErrVoid)
	wantBuilt(t, "no heap, both skins", example(heaped()), true, onto(400), 0, api.ErrVoid)
	wantBuilt(t, "one skin alone", example(heaped(l[0], l[1], l[2])), true, onto(400), 0, api.ErrVoid)
	wantBuilt(t, "one course alone", example(heaped(l[0], l[1], l[2])), false, onto(400, put(l[0], 0, 0), put(l[1], 200, 0)), 1, api.ErrVoid)
	nothing := example(heaped(), func(j *job) { j.Wide = 400 })
	wantBuilt(t, "nothing", nothing, false, onto(400), 2, api.OK)
	wantBuilt(t, "nothing, both skins", nothing, true, onto(400), 2, api.OK)
	gate := opened(opening{Kind: plan.Gate, Width: 400, High: 160})
	wantBuilt(t, "a gate alone", example(gate), true, onto(400), 2, api.OK)
	wantBuilt(t, "all of both skins", example(long(200)), true,
		onto(200, put(l[0], 0, 0), in(place.Back, put(l[1], 0, 0)), put(l[2], 0, 80), put(l[3], 100, 80), in(place.Back, put(l[4], 0, 80))), 2, api.OK)
}

// The course that fails is left out, in both skins.
func TestBuildLimit(t *testing.T) {
	first := many("f", 2, 20, 3)
	heap := append(first, many("g", 3, 1, 3)...)
	heap = append(heap, odd("o1"), odd("o2"), odd("o3"))
	level := func(j *job) { j.Level = 1 }
	two := small(20, 2, heaped(append(heap, box("x", 20, 4), box("y", 20, 4))...), level)
	wantBuilt(t, "too many tries", two, true, onto(20, put(first[0], 0, 0), in(place.Back, put(first[1], 0, 0))), 1, api.ErrLimit)
	one := small(20, 2, heaped(append(heap[1:], box("x", 20, 4), box("y", 20, 4))...), level)
	wantBuilt(t, "too many tries in the other skin", one, true, onto(20), 0, api.ErrLimit)
}

// The throughs are laid with the first skin, and have a place in the other one.
func TestBuildThroughs(t *testing.T) {
	a, b, c, d := deep(300, box("a", 4, 3)), box("b", 4, 3), deep(400, box("c", 4, 3)), box("d", 4, 3)
	// One at 2, in the upper course.
	j := small(8, 1, heaped(a, b, c, d), sheeted(func(s *sheet) { s.Every = 20 }))
	wantBuilt(t, "none before the end", j, false, onto(8, put(a, 0, 0), put(b, 4, 0)), 1, api.OK)
	j = small(8, 1, heaped(a, b, c, d), sheeted(func(s *sheet) { s.Every = 5 }))
	wantBuilt(t, "a through", j, true, onto(8, through(put(a, 0, 0)), through(put(c, 4, 0))), 1, api.OK)
	j = small(8, 1, heaped(a, b, c, d), sheeted(func(s *sheet) { s.Every = 6 }))
	wantBuilt(t, "one through", j, true, onto(8, through(put(a, 0, 0)), put(b, 4, 0), in(place.Back, put(d, 4, 0))), 1, api.OK)
}

func TestBuildMany(t *testing.T) {
	seen := map[string]int{}
	x := rand.New(rand.NewSource(74))
	for n := range 800 {
		j, both := randomJob(x), n%3 == 0
		if n%4 == 0 {
			j = tightJob(x)
		}
		w, courses, why := buildOf(j, both)
		wantKept(t, "Build", j, w, func() { wantBuilt(t, fmt.Sprint(j, both), j, both, w, courses, why) })
		seen[why.Error()]++
		seen[fmt.Sprint("courses ", min(courses, 3), both)]++
	}
	for _, what := range []string{"error 0", "error 12", "courses 3 false", "courses 2 true"} {
		if seen[what] < 20 {
			t.Error(seen)
		}
	}
}

// P7.6: Weigh.

const brickWeight = 7680000000

func wantWeights(t *testing.T, what string, j job, w wall, heap, used, left int64) {
	t.Helper()
	want(t, what, ok[account](t)(build.Weigh(j, w)), account{Heap: heap, Used: used, Left: left})
}

func TestWeigh(t *testing.T) {
	const all = 4 * brickWeight
	wantWeights(t, "the example", example(), five(), all, all, 0)
	wantWeights(t, "no stones", example(), onto(400), all, 0, all)
	wantWeights(t, "a stone", example(), onto(400, five().Stones[2]), all, brickWeight/2, 7*brickWeight/2)
	wantWeights(t, "no heap", example(heaped()), five(), 0, 0, 0)
	wantWeights(t, "other stones", example(heaped(box("z", 100, 80))), five(), brickWeight/2, 0, brickWeight/2)
	// The stones of the heap count, by their names, in whatever skin.
	wantWeights(t, "another one of its name", example(), onto(400, put(box("a", 1, 1), 0, 0)), all, brickWeight, 3*brickWeight)
	wantWeights(t, "the other skin", example(), onto(400, in(place.Back, five().Stones[0]), through(five().Stones[1])), all, 2*brickWeight, 2*brickWeight)
	wantWeights(t, "another wall", example(), wall{Ground: path(-900, -5, -300, 9), Stones: []placed{put(bricks()[0], -800, 99)}}, all, brickWeight, 3*brickWeight)
}

// P7.8: nothing is lost, whatever the wall.
func TestWeighMany(t *testing.T) {
	randomSites(t, 75, 800, func(_ *rand.Rand, j job, w wall) {
		what := fmt.Sprint(j, w)
		var a account
		wantKept(t, "Weigh", j, w, func() { a = ok[account](t)(build.Weigh(j, w)) })
		var used int64
		for _, s := range j.Heap {
			if isUsed(w, s.Name) {
				used += ok[int64](t)(stone.Weight(s))
			}
		}
		total := ok[int64](t)(stone.Total(j.Heap))
		want(t, what, a, account{Heap: total, Used: used, Left: total - used})
	})
}

// P7.8: after Build the stones of the wall weigh what is used.
func TestWeighBuilt(t *testing.T) {
	x := rand.New(rand.NewSource(76))
	for n := range 400 {
		j := randomJob(x)
		w, _, _, e := build.Build(j, n%2 == 0)
		wantErr(t, "Build", e, api.OK)
		var sum int64
		for _, p := range w.Stones {
			sum += ok[int64](t)(stone.Weight(p.Stone))
		}
		want(t, fmt.Sprint(j), ok[account](t)(build.Weigh(j, w)).Used, sum)
	}
}

// P7.9: without a stone that it does not use, the first filling is the same.
func TestFirstFilling(t *testing.T) {
	fewer := 0
	randomSites(t, 77, 700, func(_ *rand.Rand, j job, w wall) {
		for course := range coursesOf(j) {
			next, tries, e := build.Fill(j, w, course)
			if e != api.OK {
				continue
			}
			for i, s := range j.Heap {
				if isUsed(next, s.Name) && !isUsed(w, s.Name) {
					continue
				}
				less := changed(j, heaped(without(j.Heap, i)...))
				same, n, e := build.Fill(less, w, course)
				what := fmt.Sprint(j, w, course, " without ", i)
				wantErr(t, what, e, api.OK)
				wantWall(t, what, same, next)
				if n > tries {
					t.Errorf("%s: %d tries, %d with it", what, n, tries)
				}
				if n < tries {
					fewer++
				}
			}
		}
	})
	if fewer < 100 {
		t.Errorf("%d with fewer tries", fewer)
	}
}

func without(l []rock, i int) []rock {
	return append(l[:i:i], l[i+1:]...)
}

// P7.10: what cannot be filled cannot be filled with less.
func TestNoFilling(t *testing.T) {
	count := 0
	randomSites(t, 78, 700, func(x *rand.Rand, j job, w wall) {
		for course := range coursesOf(j) {
			if _, _, e := build.Fill(j, w, course); e != api.ErrVoid {
				continue
			}
			for range 3 {
				less := j
				for range x.Intn(len(j.Heap)) {
					less.Heap = without(less.Heap, x.Intn(len(less.Heap)))
				}
				_, _, e := build.Fill(less, w, course)
				wantErr(t, fmt.Sprint(less, w, course), e, api.ErrVoid)
				count++
			}
		}
	})
	if count < 1000 {
		t.Errorf("%d heaps", count)
	}
}
