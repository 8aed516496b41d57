package plan_test

import (
	"fmt"
	"math/rand"
	"slices"
	"testing"

	"copestone/api"
	"copestone/plan"
)

// P6.4: Bays.

func wantBays(t *testing.T, what string, p drawing, course int, l ...bay) {
	t.Helper()
	wantList(t, fmt.Sprint(what, ", course ", course), ok[[]bay](t)(plan.Bays(p, "north", course)), l...)
}

func TestBays(t *testing.T) {
	whole := bay{0, 3000}
	for course, l := range [][]bay{{{0, 1000}, {1250, 3000}}, {{0, 1000}, {1250, 3000}}, {whole}, {whole}, {whole}, {whole}, {whole}} {
		wantBays(t, "the example", example(), course, l...)
	}
	wantBays(t, "up to the end of a course", one(3000, smoot(9, 1, 0, 200)), 1, whole)
	wantBays(t, "from the end of a course on", one(3000, smoot(9, 1, 200, 1)), 0, whole)
	wantBays(t, "from the end of a course on", one(3000, smoot(9, 1, 200, 1)), 1, bay{0, 9}, bay{10, 3000})
	wantBays(t, "1 into a course", one(3000, smoot(9, 1, 199, 1)), 0, bay{0, 9}, bay{10, 3000})
	wantBays(t, "1 into a course", one(3000, smoot(9, 1, 0, 201)), 1, bay{0, 9}, bay{10, 3000})
	wantBays(t, "within a course", one(3000, smoot(9, 1, 300, 5)), 1, bay{0, 9}, bay{10, 3000})
	wantBays(t, "through all", one(3000, gap(9, 1)), 6, bay{0, 9}, bay{10, 3000})
	wantBays(t, "at both ends", one(3000, gap(2990, 10), gap(0, 5)), 3, bay{5, 2990})
	wantBays(t, "all of it", one(3000, gap(0, 3000)), 3)
	wantBays(t, "all of it by parts", one(3000, gap(0, 1000), gap(2000, 1000), smoot(1000, 1000, 190, 20)), 0)
	wantBays(t, "beside each other", one(3000, gap(700, 300), gap(600, 100)), 0, bay{0, 600}, bay{1000, 3000})
	wantBays(t, "not in order", one(3000, gap(700, 300), gap(100, 100), gap(2000, 1)), 0, bay{0, 100}, bay{200, 700}, bay{1000, 2000}, bay{2001, 3000})
	// Openings above each other have places in common.
	wantBays(t, "above each other", one(3000, smoot(100, 200, 0, 50), smoot(200, 300, 50, 50)), 0, bay{0, 100}, bay{500, 3000})
	wantBays(t, "one within the other", one(3000, smoot(100, 900, 0, 50), smoot(200, 300, 50, 50)), 0, bay{0, 100}, bay{1000, 3000})
	wantBays(t, "one within the other, the other way", one(3000, smoot(200, 300, 50, 50), smoot(100, 900, 0, 50)), 0, bay{0, 100}, bay{1000, 3000})
	wantBays(t, "as long as may be", one(api.MaxFar, gap(99998, 1)), 0, bay{0, 99998}, bay{99999, 100000})
}

func TestBaysErrors(t *testing.T) {
	for _, n := range append([]int{-1, 7, 8, 100}, far...) {
		l, e := plan.Bays(example(), "north", n)
		want(t, fmt.Sprint("course ", n), []any{len(l), e}, []any{0, api.ErrRange})
	}
}

func TestBaysMany(t *testing.T) {
	bays := 0
	randomSites(t, 64, 1500, func(p drawing, s sheet, w wall) {
		for i, c := range coursesOf(s) {
			l := ok[[]bay](t)(plan.Bays(p, "w0", i))
			wantList(t, fmt.Sprint(p, " course ", i), l, baysOf(freeInCourse(w, c))...)
			bays += len(l)
		}
	})
	if bays < 10000 {
		t.Errorf("%d bays", bays)
	}
}

// P6.9: areas; exactly length times Height if openings begin and end where
// courses do; a course without openings has one bay.
func TestAreas(t *testing.T) {
	exact := 0
	randomSites(t, 65, 1500, func(p drawing, s sheet, w wall) {
		area, aligned := 0, true
		ends := map[int]bool{0: true}
		courses := ok[[]course](t)(plan.Courses(s))
		for i, c := range courses {
			ends[c.To] = true
			reached := false
			for _, o := range w.Openings {
				reached = reached || o.From < c.To && c.From < o.From+o.High
			}
			l := ok[[]bay](t)(plan.Bays(p, "w0", i))
			for _, b := range l {
				area += (b.To - b.From) * (c.To - c.From)
			}
			if !reached {
				wantList(t, fmt.Sprint(p), l, bay{0, w.Length})
			}
		}
		for _, o := range w.Openings {
			area += o.Width * o.High
			aligned = aligned && ends[o.From] && ends[o.From+o.High]
		}
		if area > w.Length*s.Height || aligned && area != w.Length*s.Height {
			t.Errorf("%v: the area %d, of %d", p, area, w.Length*s.Height)
		}
		if aligned && len(w.Openings) > 0 {
			exact++
		}
	})
	if exact < 50 {
		t.Errorf("exact: %d times", exact)
	}
}

// P6.5: Throughs.

func wantThroughs(t *testing.T, what string, p drawing, course int, places ...int) {
	t.Helper()
	got, l, e := plan.Throughs(p, "north")
	want(t, what, []any{got, e}, []any{course, api.OK})
	wantList(t, what, l, places...)
}

func TestThroughs(t *testing.T) {
	wantThroughs(t, "the example", example(), 3, 450, 1350, 2250)
	for at, course := range map[int]int{0: 0, 1: 1, 200: 1, 201: 2, 380: 2, 381: 3, 560: 3, 920: 5, 921: 6, 1100: 6, 1101: -1, 1200: -1, 3000: -1} {
		p := of(dale(func(s *sheet) { s.At = at }), north(3000))
		if course == -1 {
			wantThroughs(t, fmt.Sprint("at ", at), p, -1)
		} else {
			wantThroughs(t, fmt.Sprint("at ", at), p, course, 450, 1350, 2250)
		}
	}
	wantThroughs(t, "none", of(dale(func(s *sheet) { s.Every, s.At = 0, 0 }), north(3000)), -1)
	wantThroughs(t, "1 too short", one(450), 3)
	wantThroughs(t, "just long enough", one(451), 3, 450)
	wantThroughs(t, "too short for two", one(1350), 3, 450)
	every := func(n, length int) drawing { return of(dale(func(s *sheet) { s.Every = n }), north(length)) }
	wantThroughs(t, "an odd distance", every(5, 13), 3, 2, 7, 12)
	wantThroughs(t, "the distance 1, from the end on", every(1, 5), 3, 1, 2, 3, 4)
	wantThroughs(t, "the distance 2", every(2, 6), 3, 1, 3, 5)
	wantThroughs(t, "the distance 3", every(3, 6), 3, 1, 4)
	wantThroughs(t, "as far as may be", every(api.MaxFar, api.MaxFar), 3, 50000)
	_, l, _ := plan.Throughs(every(1, api.MaxFar), "north")
	want(t, "as many as may be", len(l), api.MaxFar-1)
}

func TestThroughsOpenings(t *testing.T) {
	wantThroughs(t, "an opening there", one(3000, smoot(1300, 100, 600, 10)), 3, 450, 2250)
	wantThroughs(t, "an opening from there on", one(3000, smoot(1350, 100, 600, 10)), 3, 450, 2250)
	wantThroughs(t, "an opening up to there", one(3000, smoot(1300, 50, 600, 10)), 3, 450, 2250)
	wantThroughs(t, "an opening from 1 beyond on", one(3000, smoot(1351, 50, 600, 10)), 3, 450, 1350, 2250)
	wantThroughs(t, "an opening up to 1 before", one(3000, smoot(1300, 49, 600, 10)), 3, 450, 1350, 2250)
	wantThroughs(t, "below the course", one(3000, smoot(1300, 100, 0, 560)), 3, 450, 1350, 2250)
	wantThroughs(t, "above the course", one(3000, smoot(1300, 100, 740, 9)), 3, 450, 1350, 2250)
	wantThroughs(t, "openings everywhere", one(3000, gap(0, 3000)), 3)
}

// P6.10 as well: none lies in an opening, and neighbours are multiples of Every
// apart.
func TestThroughsMany(t *testing.T) {
	seen := 0
	randomSites(t, 66, 1500, func(p drawing, s sheet, w wall) {
		n, l, e := plan.Throughs(p, "w0")
		wantErr(t, fmt.Sprint(p), e, api.OK)
		course, places := throughsOf(w, s)
		want(t, fmt.Sprint(p), n, course)
		wantList(t, fmt.Sprint(p), l, places...)
		for i, place := range l {
			if i > 0 && (place <= l[i-1] || (place-l[i-1])%s.Every != 0) {
				t.Errorf("%v: throughs at %d and %d", p, l[i-1], place)
			}
			c := coursesOf(s)[n]
			for _, o := range w.Openings {
				if o.At <= place && place <= o.At+o.Width && o.From < c.To && c.From < o.From+o.High {
					t.Errorf("%v: a through at %d, in %v", p, place, o)
				}
			}
		}
		seen += len(l)
	})
	if seen < 2000 {
		t.Errorf("%d throughs", seen)
	}
}

// P6.5: Copes.

func wantCopes(t *testing.T, what string, p drawing, l ...cope) {
	t.Helper()
	wantList(t, what, ok[[]cope](t)(plan.Copes(p, "north")), l...)
}

func TestCopes(t *testing.T) {
	l := ok[[]cope](t)(plan.Copes(example(), "north"))
	want(t, "the example", len(l), 20)
	want(t, "the first one", l[0], cope{0, 150, 300})
	want(t, "the last one", l[19], cope{2850, 150, 200})
	wantCopes(t, "none", of(coped(plan.None, [3]int{}), north(3000)))
	for _, kind := range []uint8{plan.Flat, plan.Upright} {
		wantCopes(t, fmt.Sprint("the cope ", kind), of(coped(kind, [3]int{40, 0, 100}), north(301)), cope{0, 100, 40}, cope{100, 100, 40}, cope{200, 100, 40}, cope{300, 1, 40})
	}
	wantCopes(t, "shorter than one", one(149), cope{0, 149, 300})
	wantCopes(t, "as long as one", one(150), cope{0, 150, 300})
	wantCopes(t, "longer than one", one(151), cope{0, 150, 300}, cope{150, 1, 200})
	thin := of(dale(func(s *sheet) { s.Thick = 1 }), north(api.MaxFar))
	want(t, "as many as may be", len(ok[[]cope](t)(plan.Copes(thin, "north"))), api.MaxFar)
}

func TestCopesOpenings(t *testing.T) {
	wantCopes(t, "a gate", one(600, gap(100, 200)), cope{0, 100, 300}, cope{300, 150, 300}, cope{450, 150, 200})
	wantCopes(t, "tall again in each bay", one(1000, gap(150, 1), gap(451, 149)), cope{0, 150, 300}, cope{151, 150, 300}, cope{301, 150, 200}, cope{600, 150, 300}, cope{750, 150, 200}, cope{900, 100, 300})
	stile := opening{plan.Stile, 100, 50, 800, 400}
	wantCopes(t, "a stile", one(200, stile), cope{0, 100, 300}, cope{150, 50, 300})
	wantCopes(t, "a smoot up to the top", one(200, smoot(100, 50, 1199, 1)), cope{0, 100, 300}, cope{150, 50, 300})
	wantCopes(t, "a smoot up to 1 below", one(200, smoot(100, 50, 0, 1199)), cope{0, 150, 300}, cope{150, 50, 200})
	wantCopes(t, "gates alone", one(200, gap(100, 100), gap(0, 100)))
}

// P6.10 as well: they cover each top bay without a gap.
func TestCopesMany(t *testing.T) {
	seen := map[int]int{}
	randomSites(t, 67, 1500, func(p drawing, s sheet, w wall) {
		l := ok[[]cope](t)(plan.Copes(p, "w0"))
		wantList(t, fmt.Sprint(p), l, copesOf(w, s)...)
		if s.Cope == plan.None {
			return
		}
		covered := make([]bool, w.Length)
		for _, c := range l {
			for x := c.At; x < c.At+c.Width; x++ {
				want(t, "covered twice", covered[x], false)
				covered[x] = true
			}
		}
		wantList(t, fmt.Sprint(p), covered, freeOnTop(w, s)...)
		seen[len(baysOf(covered))]++
	})
	for bays := range 4 {
		if seen[bays] < 20 {
			t.Errorf("%d top bays: %d times", bays, seen[bays])
		}
	}
}

// P6.6: Take.

func TestTake(t *testing.T) {
	want(t, "the example", ok[quantities](t)(plan.Take(example(), "north")), quantities{
		Face:     500*(2750*200+2750*180+3000*180*4) + 480*3000*100,
		Hearting: 2750*200*200 + 2750*180*160 + 3000*180*(124+88+52+16),
		Foot:     3000 * 200 * 900,
		Top:      (10*150*300 + 10*150*200) * 460,
		Throughs: 3, Copes: 20, Roods: 50,
	})
}

func TestTakeParts(t *testing.T) {
	low := func(changes ...func(s *sheet)) sheet {
		changes = append([]func(s *sheet){func(s *sheet) {
			s.Base, s.Batter, s.Height, s.Heights, s.Skin, s.Every, s.At, s.Cope, s.Tall, s.Short, s.Thick = 300, 0, 160, []int{80}, 150, 0, 0, plan.None, 0, 0, 0
		}}, changes...)
		return dale(changes...)
	}
	take := func(s sheet, length int) quantities {
		return ok[quantities](t)(plan.Take(of(s, north(length)), "north"))
	}
	want(t, "as wide as two skins", take(low(), 400), quantities{Face: 300 * 160 * 400, Foot: 400 * 200 * 500, Roods: 6})
	want(t, "wider by 1", take(low(func(s *sheet) { s.Base = 301 }), 400), quantities{Face: 300 * 160 * 400, Hearting: 160 * 400, Foot: 400 * 200 * 501, Roods: 6})
	want(t, "narrower by 1", take(low(func(s *sheet) { s.Base = 299 }), 400), quantities{Face: 299 * 160 * 400, Foot: 400 * 200 * 499, Roods: 6})
	want(t, "no footing", take(low(func(s *sheet) { s.Footing = 0 }), 400), quantities{Face: 300 * 160 * 400, Roods: 6})
	want(t, "a rood", take(low(), 6000).Roods, 100)
	want(t, "1 less than a hundredth", take(low(), 59).Roods, 0)
	want(t, "a hundredth", take(low(), 60).Roods, 1)
	want(t, "the most roods", take(low(func(s *sheet) { s.Rood = 1 }), api.MaxFar).Roods, 100*api.MaxFar)
	want(t, "a cope, leaning", take(low(func(s *sheet) { s.Batter, s.Cope, s.Tall, s.Thick = 500, plan.Flat, 7, 300 }), 400), quantities{
		Face: (300*80 + 220*80) * 400, Foot: 400 * 200 * 500, Top: 400 * 7 * 140, Copes: 2, Roods: 6,
	})
}

// As much as there may be: more than 32 bits.
func TestTakeGreatest(t *testing.T) {
	s := upright(func(s *sheet) {
		s.Height, s.Heights, s.Skin, s.Every, s.At, s.Footing, s.Spread, s.Tall, s.Short, s.Thick, s.Rood = 3000, []int{1000}, 700, 1, 0, 1000, 1000, 1000, 1000, 1, 1
	})
	want(t, "the greatest", ok[quantities](t)(plan.Take(of(s, north(api.MaxFar)), "north")), quantities{
		Face: 420e9, Hearting: 480e9, Foot: 500e9, Top: 300e9, Throughs: 99999, Copes: 100000, Roods: 1e7,
	})
}

func TestTakeMany(t *testing.T) {
	randomSites(t, 68, 1500, func(p drawing, s sheet, w wall) {
		want(t, fmt.Sprint(p), ok[quantities](t)(plan.Take(p, "w0")), quantitiesOf(w, s))
	})
}

// P6.11: Face, Hearting and Foot of both parts of a wall without openings.
func TestTakeCut(t *testing.T) {
	x := rand.New(rand.NewSource(69))
	for range 1000 {
		s := randomSheet(x, "s", pick(x, 10, 500, 3000))
		length := 2 + x.Intn(pick(x, 5, 1000, api.MaxFar-2))
		at := 1 + x.Intn(length-1)
		p := of(s, wall{"w", "s", length, nil}, wall{"l", "s", at, nil}, wall{"r", "s", length - at, nil})
		whole, left, right := ok[quantities](t)(plan.Take(p, "w")), ok[quantities](t)(plan.Take(p, "l")), ok[quantities](t)(plan.Take(p, "r"))
		got := []int64{left.Face + right.Face, left.Hearting + right.Hearting, left.Foot + right.Foot}
		wantList(t, fmt.Sprint(s, length, at), got, whole.Face, whole.Hearting, whole.Foot)
	}
}

// The results of two calls share no memory.
func TestResultsNew(t *testing.T) {
	p := example()
	l := ok[[]bay](t)(plan.Bays(p, "north", 0))
	l[0] = bay{}
	wantBays(t, "again", p, 0, bay{0, 1000}, bay{1250, 3000})
	courses := ok[[]course](t)(plan.Courses(p.Sheets[0]))
	clear(courses)
	wantCourses(t, "again", p.Sheets[0], 200, 380, 560, 740, 920, 1100, 1200)
	want(t, "an index", slices.Index(p.Sheets[0].Heights, 0), -1)
}
