package build_test

import (
	"fmt"
	"math/rand"
	"slices"
	"testing"

	"copestone/api"
	"copestone/build"
	"copestone/joint"
	"copestone/place"
	"copestone/plan"
	"copestone/thrust"
	"copestone/whole"
)

// P7.1: Check, Rules, Case, Start.

func TestCheck(t *testing.T) {
	for what, j := range map[string]job{
		"the example":            example(),
		"the back":               example(back),
		"the thickest pins":      example(func(j *job) { j.Pin = api.MaxPin }),
		"the greatest lengths":   example(func(j *job) { j.Wide, j.Step, j.Level = api.MaxLength, api.MaxLength, 79 }),
		"a low last course":      example(sheeted(func(s *sheet) { s.Height = 170 }), func(j *job) { j.Level = 9 }),
		"a higher last course":   example(sheeted(func(s *sheet) { s.Height = 169 }), func(j *job) { j.Level = 79 }),
		"no heap":                example(heaped()),
		"an empty heap":          example(heaped([]rock{}...)),
		"as great a heap":        example(heaped(many("m", api.MaxJob, 5, 5)...)),
		"a heap for another job": example(heaped(box("a", 2000, 2000))),
		"other walls": example(func(j *job) {
			j.Plan.Walls = append([]plan.Wall{{Name: "x", Sheet: "low", Length: 1}}, j.Plan.Walls...)
		}),
		// Only the sheet of the job's own wall has too low a course.
		"another sheet": example(func(j *job) {
			low := j.Plan.Sheets[0]
			low.Name, low.Heights = "x", []int{5}
			j.Plan.Sheets, j.Level = append(j.Plan.Sheets, low), 79
		}),
	} {
		wantErr(t, what, build.Check(j), api.OK)
	}
	for what, j := range badJobs() {
		wantErr(t, what, build.Check(j), api.ErrArg)
	}
}

func TestRules(t *testing.T) {
	rules := func(j job) joint.Rules { return ok[joint.Rules](t)(build.Rules(j)) }
	want(t, "the example", rules(example()), joint.Rules{Skin: place.Front, Step: 10, Lap: 50, Run: 80})
	all := example(back, func(j *job) { j.Pin, j.Wide, j.Step, j.Level = 1, 2, 3, 4 }, sheeted(func(s *sheet) { s.Lap = 5 }))
	want(t, "all fields", rules(all), joint.Rules{Skin: place.Back, Pin: 1, Wide: 2, Step: 3, Level: 4, Lap: 5, Run: 80})
	for _, c := range []struct {
		heights []int
		height  int
		runs    map[int]int
	}{
		{[]int{80}, 160, map[int]int{1: 80, 2: 160, 3: 160, 20: 160}},
		{[]int{80}, 169, map[int]int{1: 89, 2: 169, 3: 169}},
		{[]int{80}, 170, map[int]int{1: 80, 2: 160, 3: 170, 4: 170}},
		{[]int{20, 30, 50, 10}, 130, map[int]int{1: 50, 2: 80, 3: 100, 4: 110, 5: 120, 6: 130, 7: 130}},
		{[]int{10, 50, 30, 20}, 110, map[int]int{1: 50, 2: 80, 3: 100, 4: 110, 5: 110}},
		{[]int{3000 / 3}, 3000, map[int]int{1: 1000, 2: 2000, 3: 3000, 20: 3000}},
	} {
		for run, high := range c.runs {
			j := example(sheeted(func(s *sheet) { s.Heights, s.Height, s.Run = c.heights, c.height, run }))
			want(t, fmt.Sprint(c.heights, c.height, run), rules(j).Run, high)
		}
	}
}

func TestRulesMany(t *testing.T) {
	x := rand.New(rand.NewSource(71))
	for range 300 {
		j := randomJob(x)
		s := sheetOf(j)
		highest := 0
		for i := range coursesOf(j) {
			high := 0
			for _, c := range coursesOf(j)[i:min(i+s.Run, len(coursesOf(j)))] {
				high += c.To - c.From
			}
			highest = max(highest, high)
		}
		r := ok[joint.Rules](t)(build.Rules(j))
		want(t, fmt.Sprint(j), r, joint.Rules{Skin: j.Skin, Pin: j.Pin, Wide: j.Wide, Lap: s.Lap, Step: j.Step, Run: highest, Level: j.Level})
		wantErr(t, "joint.CheckRules", joint.CheckRules(r), api.OK)
	}
}

func ratio(n, d int64) whole.R {
	r, _ := whole.Ratio(n, d)
	return r
}

func TestCase(t *testing.T) {
	wanted := thrust.Case{Wall: five(), Skin: place.Front, Low: ratio(1, 2), High: ratio(7, 10)}
	got := ok[thrust.Case](t)(build.Case(example(), five()))
	want(t, "the example", caseText(got), caseText(wanted))
	other := example(back, func(j *job) { j.Pin = 9 }, sheeted(func(s *sheet) { s.Low, s.High = 0, 2000 }))
	wanted = thrust.Case{Wall: five(), Skin: place.Back, Pin: 9, High: whole.Of(2)}
	want(t, "other numbers", caseText(ok[thrust.Case](t)(build.Case(other, five()))), caseText(wanted))
	// It does not look at the wall.
	for _, walls := range badWalls() {
		for _, w := range walls {
			got, e := build.Case(example(), w)
			wantErr(t, fmt.Sprint(w), e, api.OK)
			wantWall(t, "the case's", got.Wall, w)
		}
	}
}

func TestStart(t *testing.T) {
	wantWall(t, "the example", ok[wall](t)(build.Start(example())), wall{Ground: path(0, 0, 400, 0)})
	for _, length := range []int{1, 77, api.MaxFar} {
		w := ok[wall](t)(build.Start(example(long(length), back)))
		wantWall(t, fmt.Sprint(length), w, wall{Ground: path(0, 0, length, 0)})
		wantErr(t, "place.Check", place.Check(w), api.OK)
	}
	two := example(func(j *job) {
		j.Plan.Walls = append([]plan.Wall{{Name: "x", Sheet: "low", Length: 7}}, j.Plan.Walls...)
	})
	wantWall(t, "the second wall", ok[wall](t)(build.Start(two)), wall{Ground: path(0, 0, 400, 0)})
}

// roomy returns the wall with room behind the ends of its lists.
func roomy(w wall) wall {
	w.Ground = append(make([]point, 0, 50), w.Ground...)
	w.Stones = append(make([]placed, 0, 50), w.Stones...)
	return w
}

// wantUntouched writes into a result, and fails if this is seen in the wall that
// was handed in.
func wantUntouched(t *testing.T, what string, result, argument, before wall) {
	t.Helper()
	result.Ground[0].X -= 7
	for i := range result.Stones {
		result.Stones[i].At.X -= 7
	}
	result.Ground, result.Stones = append(result.Ground, at(9, 9)), append(result.Stones, put(box("z", 9, 9), 9, 9))
	wantWall(t, what, argument, before)
	behind := func(p placed) bool { return p.Stone.Name != "" }
	if slices.ContainsFunc(argument.Stones[len(argument.Stones):cap(argument.Stones)], behind) {
		t.Errorf("%s has written behind the stones", what)
	}
}

// R4: a result shares no list with an argument.
func TestResultsAreNew(t *testing.T) {
	w := roomy(five())
	c, e := build.Case(example(), w)
	wantErr(t, "Case", e, api.OK)
	wantUntouched(t, "Case", c.Wall, w, five())
	w.Stones = w.Stones[:2]
	clear(w.Stones[2:5])
	next, _, e := build.Fill(example(), w, 1)
	wantErr(t, "Fill", e, api.OK)
	wantUntouched(t, "Fill", next, w, onto(400, five().Stones[:2]...))
	full, _, e := build.Fill(example(), w, 0)
	wantErr(t, "Fill of a full course", e, api.OK)
	wantUntouched(t, "Fill of a full course", full, w, onto(400, five().Stones[:2]...))
}
