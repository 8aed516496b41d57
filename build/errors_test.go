package build_test

import (
	"fmt"
	"math"
	"math/rand"
	"slices"
	"testing"

	"copestone/api"
	"copestone/build"
	"copestone/joint"
	"copestone/place"
	"copestone/plan"
	"copestone/stone"
	"copestone/thrust"
)

// P1: the errors of all calls, the first one first; with an error there is no
// other result.

// wantWallError asks the calls that look at the wall.
func wantWallError(t *testing.T, what string, j job, w wall, course int, e api.Errno) {
	t.Helper()
	parts, throughs, got := build.Free(j, w, course)
	want(t, what+": Free", []any{len(parts), len(throughs), got}, []any{0, 0, e})
	next, tries, got := build.Fill(j, w, course)
	want(t, what+": Fill", []any{copied(next), tries, got}, []any{wall{}, 0, e})
}

func wantWeighError(t *testing.T, what string, j job, w wall, e api.Errno) {
	t.Helper()
	a, got := build.Weigh(j, w)
	want(t, what+": Weigh", []any{a, got}, []any{account{}, e})
}

// The error of the job comes before that of the wall, and this before that of the
// course.
func TestErrorsOfJobs(t *testing.T) {
	for what, j := range badJobs() {
		r, e := build.Rules(j)
		want(t, what+": Rules", []any{r, e}, []any{joint.Rules{}, api.ErrArg})
		w, e := build.Start(j)
		want(t, what+": Start", []any{copied(w), e}, []any{wall{}, api.ErrArg})
		for _, both := range []bool{false, true} {
			w, courses, why, e := build.Build(j, both)
			want(t, what+": Build", []any{copied(w), courses, why, e}, []any{wall{}, 0, api.OK, api.ErrArg})
		}
		for _, w := range append(badWalls()[api.ErrTwice], five(), wall{}, onto(400)) {
			c, e := build.Case(j, w)
			wantErr(t, what+": Case", e, api.ErrArg)
			want(t, what+": Case", caseText(c), caseText(thrust.Case{}))
			for _, course := range append([]int{0, 1, 2, -1}, far...) {
				wantWallError(t, what, j, w, course, api.ErrArg)
			}
			wantWeighError(t, what, j, w, api.ErrArg)
		}
	}
}

func TestErrorsOfWalls(t *testing.T) {
	for e, walls := range badWalls() {
		for _, w := range walls {
			what := fmt.Sprint(w)
			wantErr(t, what, place.Check(w), e)
			for _, course := range append([]int{0, 1, 2, -1}, far...) {
				wantWallError(t, what, example(), w, course, e)
				wantWallError(t, what, example(back), w, course, e)
			}
			wantWeighError(t, what, example(), w, e)
		}
	}
}

func TestErrorsOfCourses(t *testing.T) {
	for _, course := range append([]int{-1, 2, 3, 100}, far...) {
		for _, w := range []wall{five(), onto(400), {Ground: path(7, 7, 8, 8)}} {
			wantWallError(t, fmt.Sprint(course), example(), w, course, api.ErrRange)
		}
	}
	one := example(sheeted(func(s *sheet) { s.Heights = []int{200} }))
	wantWallError(t, "one course", one, onto(400), 1, api.ErrRange)
	wantFree(t, "the last course", example(heaped()), onto(400), 1, nil, bay{From: 0, To: 400})
	wantNone(t, "the last course", example(heaped()), onto(400), 1, api.ErrVoid)
}

// Any values at all: no call panics, and an error is one of the chapter's.
func TestAnyValues(t *testing.T) {
	x := rand.New(rand.NewSource(82))
	number := func() int { return pick(x, append(far, 0, 1, 2, -1, 3, 80, 160, 400, x.Intn(3000))...) }
	aPoint := func() point { return at(number(), number()) }
	aStone := func() rock {
		s := pick(x, append(bricks(), rock{}, odd("o"))...)
		switch x.Intn(6) {
		case 0:
			s.Shape = append(slices.Clone(s.Shape[:x.Intn(len(s.Shape)+1)]), aPoint())
		case 1:
			s.Depth, s.Density = number(), number()
		case 2:
			s.Grain = aPoint()
		}
		return s
	}
	for range 3000 {
		j, w := example(), five()
		for range x.Intn(4) {
			anyJob(x, &j, number, aStone)
		}
		for range x.Intn(3) {
			p := placed{Stone: aStone(), Way: number(), At: aPoint(), Skin: uint8(x.Intn(6))}
			w.Stones = append(w.Stones, p)
		}
		if x.Intn(3) == 0 {
			w.Ground = append(w.Ground, aPoint())
		}
		wantNoPanic(t, j, w, number())
	}
	wantNoPanic(t, job{}, wall{}, math.MinInt)
}

func anyJob(x *rand.Rand, j *job, number func() int, aStone func() rock) {
	s, w := &j.Plan.Sheets[0], &j.Plan.Walls[0]
	switch x.Intn(9) {
	case 0:
		*pick(x, &j.Pin, &j.Wide, &j.Step, &j.Level) = number()
	case 1:
		*pick(x, &s.Base, &s.Batter, &s.Height, &s.Skin, &s.Least, &s.Lap, &s.Run, &s.Every, &s.At, &s.Low, &s.High) = number()
	case 2:
		s.Heights = append(s.Heights, number())
	case 3:
		w.Length = number()
	case 4:
		w.Openings = append(w.Openings, opening{Kind: uint8(x.Intn(6)), At: number(), Width: number(), From: number(), High: number()})
	case 5:
		j.Heap = append(j.Heap, aStone())
	case 6:
		j.Skin = uint8(x.Intn(5))
	case 7:
		j.Wall = pick(x, "", "bit", "low")
	case 8:
		s.Every, s.At = 1+x.Intn(300), x.Intn(100)
	}
}

func wantNoPanic(t *testing.T, j job, w wall, n int) {
	t.Helper()
	defer func() {
		if thrown := recover(); thrown != nil {
			t.Errorf("%v, %v, %d: %v", j, w, n, thrown)
		}
	}()
	valid := build.Check(j)
	is := valid == api.OK && stone.CheckHeap(j.Heap) == api.OK && plan.Check(j.Plan) == api.OK
	want(t, fmt.Sprint(j), is, valid == api.OK)
	build.Rules(j)
	build.Case(j, w)
	build.Start(j)
	build.Free(j, w, n)
	build.Fill(j, w, n)
	build.Build(j, n%2 == 0)
	build.Prove(j, w, n)
	build.Weigh(j, w)
}
