package joint_test

import (
	"fmt"
	"math/rand"
	"slices"
	"testing"

	"copestone/api"
	"copestone/joint"
	"copestone/place"
)

// P5.4: Courses.

func wantCourses(t *testing.T, what string, w wall, r rules, courses ...int) {
	t.Helper()
	wantList(t, what, ok[[]int](t)(joint.Courses(w, r)), courses...)
}

func pins(pin int) func(r *rules) { return func(r *rules) { r.Pin = pin } }

func TestCourses(t *testing.T) {
	wantCourses(t, "the chapter's", five(), front(), 1, 1, 2, 2, 3)
	wantCourses(t, "no stones", on(flat()), front())
	back := front(func(r *rules) { r.Skin = place.Back })
	wantCourses(t, "the other skin", five(), back, 0, 0, 0, 0, 0)
	// A bed on the ground does not count, nor does one on a stone that is not there.
	hill := path(-1000, 0, 0, 0, 0+1, 80, 1000, 80)
	wantCourses(t, "on the ground", on(hill, brick("a", 1, 80), brick("b", -200, 0)), front(), 1, 1)
	wantCourses(t, "in the air", on(flat(), brick("a", 0, 500), brick("b", 0, 580)), front(), 1, 2)
	// By the greatest course below, in whatever order.
	stairs := []placed{brick("d", 100, 160), brick("b", 200, 0), boxed("c", 0, 80, 150, 80), brick("a", 0, 0)}
	tall := boxed("e", 150, 80, 9, 80)
	wantCourses(t, "the greatest one", on(flat(), append(stairs, tall)...), front(), 3, 1, 2, 1, 2)
	chimney := []placed{boxed("a", 0, 0, 50, 160), boxed("b", 50, 0, 50, 80), boxed("c", 50, 80, 50, 80), boxed("d", 0, 160, 100, 9)}
	wantCourses(t, "of two", on(flat(), chimney...), front(), 1, 1, 2, 3)
}

func TestCoursesOverPins(t *testing.T) {
	for gap := range 9 {
		w := on(flat(), brick("a", 0, 0), brick("b", 0, 80+gap))
		for pin := range 9 {
			course := 1
			if gap <= pin {
				course = 2
			}
			wantCourses(t, fmt.Sprint(gap, pin), w, front(pins(pin)), 1, course)
		}
	}
	most := on(flat(), brick("a", 0, 0), brick("b", 0, 80+api.MaxPin), brick("c", 300, 0), brick("d", 300, 81+api.MaxPin))
	wantCourses(t, "the thickest pins", most, front(pins(api.MaxPin)), 1, 2, 1, 1)
	w := on(flat(), brick("a", 0, 0), brick("b", 200, 80))
	wantCourses(t, "an end alone", w, front(pins(9)), 1, 1)
	w = on(flat(), put(shaped("a", path(0, 0, 100, 0, 0, 80)...), 0, 0, place.Front), put(shaped("b", path(100, 0, 100, 80, 0, 80)...), 0, 0, place.Front))
	wantCourses(t, "a slope", w, front(), 1, 2)
	w.Stones[1].At.X = 10
	wantCourses(t, "a slope, too far", w, front(pins(7)), 1, 1)
	wantCourses(t, "a slope, over pins", w, front(pins(8)), 1, 2)
}

func TestCoursesSkins(t *testing.T) {
	back := front(func(r *rules) { r.Skin = place.Back })
	w := on(flat(), in(place.Back, brick("a", 0, 0)), in(place.Through, brick("b", 0, 80)), brick("c", 0, 160), in(place.Back, brick("d", 0, 160)), brick("e", 0, 0))
	w.Stones = append(w.Stones, in(place.Back, brick("f", 300, 0)), in(place.Back, brick("g", 300, 80)), brick("h", 300, 160))
	wantCourses(t, "front", w, front(), 0, 2, 3, 0, 1, 0, 0, 1)
	wantCourses(t, "back", w, back, 1, 2, 0, 3, 0, 1, 2, 0)
}

func TestCoursesGreatest(t *testing.T) {
	w := on(deepDown())
	var wanted []int
	for i := range api.MaxWall {
		w.Stones = append(w.Stones, brick(fmt.Sprint("s", i), 0, -80*i))
		wanted = append(wanted, api.MaxWall-i)
	}
	wantCourses(t, "a tower", w, front(), wanted...)
}

// P5.11 as well: above all on which it lies; no course without a stone.
func TestCoursesMany(t *testing.T) {
	high := 0
	randomWalls(t, 75, 1500, func(_ *rand.Rand, w wall, r rules) {
		what := fmt.Sprint(w, r)
		var got []int
		wantKept(t, "Courses", w, func() { got = ok[[]int](t)(joint.Courses(w, r)) })
		wantList(t, what, got, coursesOf(t, w, r)...)
		for i, beds := range bedsIn(t, w, r) {
			for _, by := range beds {
				if got[i] <= got[by] {
					t.Errorf("%s: the stone %d is in the course %d, on the stone %d of %d", what, i, got[i], by, got[by])
				}
			}
		}
		if len(got) == 0 {
			return
		}
		for course := 1; course < slices.Max(got); course++ {
			want(t, what, slices.Contains(got, course), true)
		}
		if slices.Max(got) > 3 {
			high++
		}
	})
	if high < 200 {
		t.Errorf("%d high walls", high)
	}
}

// P5.5: Survey.

func wantFindings(t *testing.T, what string, w wall, r rules, findings ...finding) {
	t.Helper()
	wantList(t, what, ok[[]finding](t)(joint.Survey(w, r)), findings...)
}

func TestSurvey(t *testing.T) {
	wantFindings(t, "the chapter's", five(), front(),
		finding{joint.Runs, 1, -1, 160}, finding{joint.Short, 0, 2, 0}, finding{joint.Short, 0, 3, 0},
		finding{joint.Traced, -1, 0, 100}, finding{joint.Traced, -1, 1, 100}, finding{joint.Traced, -1, 2, 100}, finding{joint.Traced, -1, 3, 100}, finding{joint.Traced, -1, 4, 100})
	wantFindings(t, "no stones", on(flat()), front())
	back := front(func(r *rules) { r.Skin = place.Back })
	wantFindings(t, "the other skin", five(), back)
	w := five()
	w.Stones[4].Skin = place.Through
	wantFindings(t, "a through stone", w, back, finding{joint.Traced, -1, 4, 100})
}

// bonded returns stones that lie into the wall.
func bonded(l ...placed) wall {
	w := inAir(l)
	for i := range w.Stones {
		w.Stones[i].Stone.Depth = api.MaxSide
	}
	return w
}

func TestSurveyRuns(t *testing.T) {
	w := bonded(slices.Concat(pairAt("a", 0, 0, 5, 80), pairAt("b", 40, 80, 5, 80), pairAt("c", 80, 160, 5, 80), pairAt("d", 400, 0, 5, 101))...)
	runs := func(run int) rules { return narrow(func(r *rules) { r.Run, r.Lap, r.Level = run, 36, 999 }) }
	shorts := findingsOfKind(t, w, runs(240), joint.Short)
	for _, c := range []struct {
		run  int
		want []finding
	}{
		{240, nil}, {239, []finding{{1, 3, -1, 240}}}, {160, []finding{{1, 3, -1, 240}}},
		{101, []finding{{1, 2, -1, 160}, {1, 3, -1, 240}}}, {100, []finding{{1, 1, -1, 101}, {1, 2, -1, 160}, {1, 3, -1, 240}}},
		{79, []finding{{1, 0, -1, 80}, {1, 1, -1, 101}, {1, 2, -1, 160}, {1, 3, -1, 240}}},
	} {
		wantFindings(t, fmt.Sprint(c.run), w, runs(c.run), append(c.want, shorts...)...)
	}
}

func findingsOfKind(t *testing.T, w wall, r rules, kind uint8) []finding {
	t.Helper()
	l := ok[[]finding](t)(joint.Survey(w, r))
	return slices.DeleteFunc(l, func(f finding) bool { return f.Kind != kind })
}

// The joint is from 0 to 5, and 80 high; a stone lies over it.
func TestSurveyShort(t *testing.T) {
	for _, c := range []struct {
		left, wide, z int
		short         bool
		lap           int
	}{
		{-50, 105, 80, false, 0}, {-49, 105, 80, true, 49}, {-51, 105, 80, true, 49}, {-50, 104, 80, true, 49}, {-100, 149, 80, true, 44},
		{0, 100, 80, true, 0}, {1, 100, 80, true, -1}, {5, 100, 80, true, -5}, {6, 100, 80, false, 0},
		{-100, 105, 80, true, 0}, {-100, 104, 80, true, -1}, {-100, 100, 80, true, -5}, {-100, 99, 80, false, 0},
		{1, 3, 80, true, -1}, {2, 3, 80, true, -2}, {0, 100, 90, true, 0}, {0, 100, 91, false, 0}, {-50, 105, 90, false, 0},
	} {
		w := bonded(append(pairAt("a", 0, 0, 5, 80), boxed("s", c.left, c.z, c.wide, 80))...)
		var findings []finding
		if c.short {
			findings = append(findings, finding{joint.Short, 0, 2, c.lap})
		}
		wantFindings(t, fmt.Sprint(c), w, narrow(func(r *rules) { r.Level = 999 }), findings...)
	}
}

// A stone may begin below the end of a joint, but not as low as it begins: the
// upper half of a box, moved up, over the joint at the left of the lower half.
func TestSurveyShortBelow(t *testing.T) {
	for z := range 30 {
		low, high := halves("b", "c", 0, 0)
		high.At.Z = z
		w, r := bonded(boxed("a", -50, 0, 50, 8), low, high), front(func(r *rules) { r.Wide = 0 })
		k := slices.Index(ok[joints](t)(joint.Joints(w, r)), joint.Joint{0, 1, 0, 0, 0, 8})
		is := slices.Contains(findingsOfKind(t, w, r, joint.Short), finding{joint.Short, k, 2, 0})
		want(t, fmt.Sprint(z), is, z > 0 && z <= 18)
	}
}

func TestSurveyTraced(t *testing.T) {
	for _, c := range []struct{ depth, amount int }{{199, 1}, {200, 0}, {201, 0}, {1, 199}, {api.MaxSide, 0}} {
		w := on(flat(), deep(c.depth, brick("a", 0, 0)))
		if c.amount == 0 {
			wantFindings(t, fmt.Sprint(c), w, front())
		} else {
			wantFindings(t, fmt.Sprint(c), w, front(), finding{joint.Traced, -1, 0, c.amount})
		}
	}
	w := on(flat(), deep(80, brick("a", 0, 0)), deep(79, brick("b", 300, 0)))
	w.Stones[0].Way, w.Stones[1].Way = 1, 5
	wantFindings(t, "upright", w, front(), finding{joint.Traced, -1, 1, 1})
}

func TestSurveyUneven(t *testing.T) {
	lay := func(high ...int) wall {
		var l []placed
		for i, h := range high {
			l = append(l, boxed(fmt.Sprint("s", i), 100*i, -300, 50, h))
		}
		return bonded(l...)
	}
	wantFindings(t, "by 5", lay(80, 75, 80), front())
	wantFindings(t, "by 6", lay(80, 74, 80), front(), finding{joint.Uneven, -1, 1, 6})
	wantFindings(t, "by the greatest top", lay(80, 70, 90, 85, 84), front(), finding{joint.Uneven, -1, 0, 10}, finding{joint.Uneven, -1, 1, 20}, finding{joint.Uneven, -1, 4, 6})
	level := front(func(r *rules) { r.Level = 0 })
	wantFindings(t, "by 1", lay(80, 79), level, finding{joint.Uneven, -1, 1, 1})
	w := lay(80, 80, 40, 30)
	w.Stones[1].Skin, w.Stones[2].Skin, w.Stones[3].Skin = place.Back, place.Through, place.Back
	wantFindings(t, "front", w, front(), finding{joint.Uneven, -1, 2, 40})
	wantFindings(t, "back", w, front(func(r *rules) { r.Skin = place.Back }), finding{joint.Uneven, -1, 2, 40}, finding{joint.Uneven, -1, 3, 50})
	// Each course has its own level; over pins the upper stone is in the second one.
	w = bonded(boxed("a", 0, 0, 50, 80), boxed("b", 100, 0, 50, 80), boxed("c", 0, 82, 50, 80), boxed("d", 100, 80, 50, 60))
	wantFindings(t, "over pins", w, front(pins(2)), finding{joint.Uneven, -1, 3, 22})
	wantFindings(t, "without pins", w, front(), finding{joint.Uneven, -1, 0, 82}, finding{joint.Uneven, -1, 1, 82})
}

func TestSurveyMany(t *testing.T) {
	seen := map[uint8]int{}
	randomWalls(t, 76, 2500, func(_ *rand.Rand, w wall, r rules) {
		roots := ok[[]int](t)(joint.Roots(w, r))
		var got []finding
		wantKept(t, "Survey", w, func() { got = ok[[]finding](t)(joint.Survey(w, r)) })
		wantList(t, fmt.Sprint(w, r), got, findingsOf(t, w, r, roots)...)
		for _, f := range got {
			seen[f.Kind]++
		}
	})
	for kind := joint.Runs; kind <= joint.Uneven; kind++ {
		if seen[kind] < 500 {
			t.Errorf("kind %d: %d findings", kind, seen[kind])
		}
	}
}

// P5.9: with a lesser Lap there are no more Runs and Short findings; with a
// greater Run no more Runs; with a greater Level no more Uneven ones.
func TestSurveyMonotone(t *testing.T) {
	fewer := 0
	randomWalls(t, 77, 600, func(_ *rand.Rand, w wall, r rules) {
		compare := func(kind uint8, easier rules) {
			t.Helper()
			before, after := len(findingsOfKind(t, w, r, kind)), len(findingsOfKind(t, w, easier, kind))
			if after > before {
				t.Errorf("%v: %d findings of the kind %d by %v, %d by %v", w, before, kind, r, after, easier)
			}
			fewer += before - after
		}
		lap, run, level := r, r, r
		lap.Lap, run.Run, level.Level = max(0, r.Lap-2), r.Run+3, r.Level+1
		compare(joint.Runs, lap)
		compare(joint.Short, lap)
		compare(joint.Runs, run)
		compare(joint.Uneven, level)
	})
	if fewer < 500 {
		t.Errorf("%d findings fewer", fewer)
	}
}
