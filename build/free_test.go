package build_test

import (
	"fmt"
	"math/rand"
	"testing"

	"copestone/api"
	"copestone/build"
	"copestone/place"
	"copestone/plan"
)

// P7.2: Free.

func wantFree(t *testing.T, what string, j job, w wall, course int, throughs []int, parts ...bay) {
	t.Helper()
	got, open, e := build.Free(j, w, course)
	wantErr(t, what, e, api.OK)
	wantList(t, what+": parts", got, parts...)
	wantList(t, what+": throughs", open, throughs...)
}

func TestFreeParts(t *testing.T) {
	a, b := box("a", 200, 80), box("b", 90, 80)
	wantFree(t, "no stones", example(), onto(400), 0, nil, bay{From: 0, To: 400})
	wantFree(t, "no stones above", example(), onto(400), 1, nil, bay{From: 0, To: 400})
	wantFree(t, "a stone", example(), onto(400, put(a, 50, 0)), 0, nil, bay{From: 0, To: 50}, bay{From: 250, To: 400})
	wantFree(t, "a stone at the left", example(), onto(400, put(a, 0, 0)), 0, nil, bay{From: 200, To: 400})
	wantFree(t, "a stone at the right", example(), onto(400, put(a, 200, 0)), 0, nil, bay{From: 0, To: 200})
	wantFree(t, "stones in no order", example(), onto(400, put(b, 301, 0), put(a, 100, 0)), 0, nil, bay{From: 0, To: 100}, bay{From: 300, To: 301}, bay{From: 391, To: 400})
	wantFree(t, "all stones", example(), five(), 0, nil)
	wantFree(t, "all stones above", example(), five(), 1, nil)
	wantFree(t, "upright", example(), onto(400, turned(1, put(a, 0, 0))), 1, nil, bay{From: 80, To: 400})
	// The ranges of stones count, even if there is room above or below.
	slopes := onto(400, put(corner("a", 100, 80), 100, 0), turned(2, put(corner("b", 100, 80), 101, 0)))
	wantFree(t, "slopes", example(), slopes, 0, nil, bay{From: 0, To: 100}, bay{From: 201, To: 400})
	// Another wall may be longer, or shorter.
	wantFree(t, "a long wall", example(), wall{Ground: path(-900, 0, 900, 0), Stones: []placed{put(a, -100, 0), put(b, 390, 0)}}, 0, nil, bay{From: 100, To: 390})
	wantFree(t, "a short wall", example(), wall{Ground: path(300, 0, 310, 0)}, 0, nil, bay{From: 0, To: 400})
}

func TestFreeSkins(t *testing.T) {
	a, b, c := put(box("a", 100, 80), 0, 0), in(place.Back, put(box("b", 50, 80), 0, 0)), through(put(box("c", 100, 80), 200, 0))
	wantFree(t, "front", example(), onto(400, a, b, c), 0, nil, bay{From: 100, To: 200}, bay{From: 300, To: 400})
	wantFree(t, "back", example(back), onto(400, a, b, c), 0, nil, bay{From: 50, To: 200}, bay{From: 300, To: 400})
}

// A stone is in a course that it overlaps: from 80 to 160.
func TestFreeHeights(t *testing.T) {
	for _, c := range []struct {
		z, high int
		is      bool
	}{{0, 80, false}, {0, 81, true}, {159, 1, true}, {160, 1, false}, {80, 80, true}, {0, 200, true}, {100, 5, true}, {300, 80, false}} {
		w := onto(400, put(box("a", 100, c.high), 0, c.z))
		if c.is {
			wantFree(t, fmt.Sprint(c), example(), w, 1, nil, bay{From: 100, To: 400})
		} else {
			wantFree(t, fmt.Sprint(c), example(), w, 1, nil, bay{From: 0, To: 400})
		}
	}
}

func TestFreeBays(t *testing.T) {
	smoot := opening{Kind: plan.Smoot, At: 100, Width: 50, From: 0, High: 80}
	w := onto(400, put(box("a", 200, 80), 120, 80), put(box("b", 30, 80), 140, 0))
	wantFree(t, "beside a smoot", example(opened(smoot)), onto(400), 0, nil, bay{From: 0, To: 100}, bay{From: 150, To: 400})
	wantFree(t, "over a smoot", example(opened(smoot)), onto(400), 1, nil, bay{From: 0, To: 400})
	wantFree(t, "a stone in a smoot", example(opened(smoot)), w, 0, nil, bay{From: 0, To: 100}, bay{From: 170, To: 400})
	smoot.High = 81
	wantFree(t, "beside a high smoot", example(opened(smoot)), w, 1, nil, bay{From: 0, To: 100}, bay{From: 320, To: 400})
	gate := opening{Kind: plan.Gate, At: 0, Width: 400, High: 160}
	wantFree(t, "a gate alone", example(opened(gate)), onto(400), 0, nil)
}

// Throughs are asked for at 50 and 150, in the course from 80 to 160.
func TestFreeThroughs(t *testing.T) {
	j := example(long(200), sheeted(func(s *sheet) { s.Every, s.At = 100, 1 }))
	all := bay{From: 0, To: 200}
	wantFree(t, "below", j, onto(200), 0, nil, all)
	wantFree(t, "no stones", j, onto(200), 1, []int{50, 150}, all)
	wantFree(t, "another skin", example(back, func(k *job) { k.Plan = j.Plan }), onto(200), 1, []int{50, 150}, all)
	for _, c := range []struct {
		x, z, high int
		skin       uint8
		open       bool
	}{
		{40, 80, 80, place.Through, false}, {50, 80, 80, place.Through, false}, {30, 80, 80, place.Through, false}, {29, 80, 80, place.Through, true}, {51, 80, 80, place.Through, true},
		{40, 80, 80, place.Front, true}, {40, 80, 80, place.Back, true},
		{40, 0, 80, place.Through, true}, {40, 0, 81, place.Through, false}, {40, 160, 80, place.Through, true}, {40, 159, 1, place.Through, false},
	} {
		_, open, e := build.Free(j, onto(200, in(c.skin, put(box("a", 20, c.high), c.x, c.z))), 1)
		wantErr(t, fmt.Sprint(c), e, api.OK)
		if c.open {
			wantList(t, fmt.Sprint(c), open, 50, 150)
		} else {
			wantList(t, fmt.Sprint(c), open, 150)
		}
	}
	both := through(put(box("a", 100, 80), 50, 80))
	wantFree(t, "one for both", j, onto(200, both), 1, nil, bay{From: 0, To: 50}, bay{From: 150, To: 200})
}

func TestFreeMany(t *testing.T) {
	parted, open := 0, 0
	randomSites(t, 72, 1500, func(_ *rand.Rand, j job, w wall) {
		for course := range coursesOf(j) {
			what := fmt.Sprint(j, w, course)
			wantKept(t, "Free", j, w, func() { wantFree(t, what, j, w, course, openIn(j, w, course), freeOf(j, w, course)...) })
			if len(freeOf(j, w, course)) > 1 {
				parted++
			}
			if len(openIn(j, w, course)) > 0 {
				open++
			}
		}
	})
	if parted < 100 || open < 100 {
		t.Errorf("%d parted courses, %d with open throughs", parted, open)
	}
}
