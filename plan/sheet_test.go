package plan_test

import (
	"fmt"
	"math/rand"
	"testing"

	"copestone/api"
	"copestone/plan"
)

// P6.1: CheckSheet.

func TestCheckSheet(t *testing.T) {
	wantErr(t, "dale", plan.CheckSheet(dale()), api.OK)
	for what, s := range badSheets() {
		wantErr(t, what, plan.CheckSheet(s), api.ErrArg)
	}
	for _, name := range []string{"a", "z", "0", "9", "dale", "1234567890123456", "abcdefghijklmnop", "qrstuvwxyz012345"} {
		wantErr(t, name, plan.CheckSheet(dale(func(s *sheet) { s.Name = name })), api.OK)
	}
}

func TestCheckSheetRanges(t *testing.T) {
	for _, n := range numbers() {
		for _, to := range []int{n.least, n.most, (n.least + n.most) / 2} {
			s := upright(func(s *sheet) { *n.of(s) = to })
			wantErr(t, fmt.Sprint(n.what, " ", to), plan.CheckSheet(s), api.OK)
		}
	}
	wantErr(t, "the friction 0", plan.CheckSheet(dale(func(s *sheet) { s.Low, s.High = 0, 0 })), api.OK)
	wantErr(t, "one friction", plan.CheckSheet(dale(func(s *sheet) { s.Low = s.High })), api.OK)
	wantErr(t, "12 heights", plan.CheckSheet(dale(func(s *sheet) { s.Heights = repeated(1, 12); s.Heights[11] = 1000 })), api.OK)
	wantErr(t, "Every without At", plan.CheckSheet(dale(func(s *sheet) { s.At = 0 })), api.OK)
	wantErr(t, "no throughs", plan.CheckSheet(dale(func(s *sheet) { s.Every, s.At = 0, 0 })), api.OK)
	wantErr(t, "throughs above the top", plan.CheckSheet(dale(func(s *sheet) { s.At = 3000 })), api.OK)
}

func TestCheckSheetCopes(t *testing.T) {
	for _, s := range []sheet{
		coped(plan.None, [3]int{}), coped(plan.Flat, [3]int{1, 0, 1}), coped(plan.Flat, [3]int{1000, 0, 1000}), coped(plan.Upright, [3]int{1, 0, 1}),
		coped(plan.Upright, [3]int{1000, 0, 1000}), coped(plan.Buck, [3]int{1, 1, 1}), coped(plan.Buck, [3]int{1000, 1000, 1000}), coped(plan.Buck, [3]int{200, 300, 1}),
	} {
		wantErr(t, fmt.Sprint(s), plan.CheckSheet(s), api.OK)
	}
}

// What follows from several numbers: the width on top, and how many courses
// there are.
func TestCheckSheetTogether(t *testing.T) {
	for what, s := range map[string]sheet{
		"the width 1 on top":            dale(func(s *sheet) { s.Base = 241 }),
		"a lean that is rounded down":   dale(func(s *sheet) { s.Base, s.Batter, s.Height = 1, 1, 999 }),
		"100 courses":                   dale(func(s *sheet) { s.Height, s.Heights, s.Least = 100, []int{1}, 1 }),
		"100 courses, the last higher":  dale(func(s *sheet) { s.Height, s.Heights, s.Least = 1005, []int{10}, 6 }),
		"100 courses with the rest":     dale(func(s *sheet) { s.Height, s.Heights, s.Least = 995, []int{10}, 5 }),
		"one course, lower than others": dale(func(s *sheet) { s.Height, s.Heights, s.Least = 1, []int{1000}, 1000 }),
	} {
		wantErr(t, what, plan.CheckSheet(s), api.OK)
	}
	wantErr(t, "a lean of 1", plan.CheckSheet(dale(func(s *sheet) { s.Base, s.Batter, s.Height = 2, 1, 1000 })), api.ErrArg)
}

// P6.3: Width.

func TestWidth(t *testing.T) {
	for z, w := range map[int]int{0: 700, 9: 700, 10: 698, 11: 698, 19: 698, 20: 696, 560: 588, 569: 588, 570: 586, 1199: 462, 1200: 460} {
		want(t, fmt.Sprint("dale at ", z), ok[int](t)(plan.Width(dale(), z)), w)
	}
	for _, z := range append([]int{-1, 1201}, far...) {
		w, e := plan.Width(dale(), z)
		want(t, fmt.Sprint("dale at ", z), []any{w, e}, []any{0, api.ErrRange})
		w, e = plan.Width(sheet{}, z)
		want(t, fmt.Sprint("nothing at ", z), []any{w, e}, []any{0, api.ErrArg})
	}
	for what, s := range badSheets() {
		for _, z := range []int{0, 100, -1} {
			w, e := plan.Width(s, z)
			want(t, what, []any{w, e}, []any{0, api.ErrArg})
		}
	}
}

// P6.3: Courses.

func wantCourses(t *testing.T, what string, s sheet, ends ...int) {
	t.Helper()
	l, from := []course{}, 0
	for _, to := range ends {
		l = append(l, course{from, to})
		from = to
	}
	wantList(t, what, ok[[]course](t)(plan.Courses(s)), l...)
}

func TestCourses(t *testing.T) {
	wantCourses(t, "dale", dale(), 200, 380, 560, 740, 920, 1100, 1200)
	high := func(height, least int, heights ...int) sheet {
		return dale(func(s *sheet) { s.Height, s.Least, s.Heights = height, least, heights })
	}
	wantCourses(t, "the rest is 60", high(980, 60, 200, 180), 200, 380, 560, 740, 920, 980)
	wantCourses(t, "the rest is 59", high(979, 60, 200, 180), 200, 380, 560, 740, 979)
	wantCourses(t, "no rest", high(920, 60, 200, 180), 200, 380, 560, 740, 920)
	wantCourses(t, "the rest is 1, at least 1", high(921, 1, 200, 180), 200, 380, 560, 740, 920, 921)
	wantCourses(t, "one course", high(200, 1, 200, 180), 200)
	wantCourses(t, "lower than the first one", high(199, 1000, 200, 180), 199)
	wantCourses(t, "as low as can be", high(1, 1000, 1000), 1)
	wantCourses(t, "one course, higher", high(379, 180, 200, 180), 379)
	wantCourses(t, "a high rest", high(379, 179, 200, 180), 200, 379)
	wantCourses(t, "the next one does not fit, a later one would", high(300, 10, 200, 150, 50), 200, 300)
	wantCourses(t, "all heights, and the last one again", high(160, 1, 10, 20, 30, 40, 5), 10, 30, 60, 100, 105, 110, 115, 120, 125, 130, 135, 140, 145, 150, 155, 160)
	wantCourses(t, "not all heights", high(35, 1, 10, 20, 30, 40, 5), 10, 30, 35)
	for what, s := range badSheets() {
		l, e := plan.Courses(s)
		want(t, what, []any{len(l), e}, []any{0, api.ErrArg})
	}
}

// P6.8 as well: the courses follow each other from 0 to Height, all but the last
// one have the heights of the sheet, and widths do not grow upward.
func TestCoursesMany(t *testing.T) {
	x := rand.New(rand.NewSource(61))
	seen := map[string]int{}
	for n := range 3000 {
		s := randomSheet(x, "s", pick(x, 1, 5, 40, 300, api.MaxHigh))
		what := fmt.Sprint(n, s)
		wantErr(t, what, plan.CheckSheet(s), api.OK)
		wantKept(t, of(s), func() {
			l := ok[[]course](t)(plan.Courses(s))
			wantList(t, what, l, coursesOf(s)...)
			seen[wantCoursed(t, what, s, l)]++
			wantWidths(t, what, s)
		})
	}
	for _, kind := range []string{"last as the others", "last lower", "last higher", "only a lower one"} {
		if seen[kind] < 50 {
			t.Errorf("%s: %d times", kind, seen[kind])
		}
	}
}

// wantCoursed returns of what kind the last course is.
func wantCoursed(t *testing.T, what string, s sheet, l []course) string {
	t.Helper()
	at := 0
	for i, c := range l {
		high := s.Heights[min(i, len(s.Heights)-1)]
		want(t, what+" from", c.From, at)
		at = c.To
		if i < len(l)-1 {
			want(t, what+" high", c.To-c.From, high)
			continue
		}
		want(t, what+" top", c.To, s.Height)
		switch last := c.To - c.From; {
		case last == high:
			return "last as the others"
		case last > high:
			return "last higher"
		case i == 0:
			return "only a lower one"
		}
	}
	return "last lower"
}

func wantWidths(t *testing.T, what string, s sheet) {
	t.Helper()
	below := s.Base
	for z := 0; z <= s.Height; z += 1 + s.Height/50 {
		w := ok[int](t)(plan.Width(s, z))
		want(t, fmt.Sprint(what, " at ", z), w, widthOf(s, z))
		if w > below || w < 1 {
			t.Errorf("%s: %d wide at %d, %d below", what, w, z, below)
		}
		below = w
	}
}
