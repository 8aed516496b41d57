package plan_test

import (
	"fmt"
	"math"
	"math/rand"
	"reflect"
	"slices"
	"testing"

	"copestone/api"
	"copestone/plan"
)

// The tests hold the package against slow ways that follow the words of the
// chapter (slow_test.go): they look at each millimetre by itself.

type (
	sheet      = plan.Sheet
	opening    = plan.Opening
	wall       = plan.Wall
	drawing    = plan.Plan
	course     = plan.Course
	bay        = plan.Bay
	cope       = plan.Cope
	quantities = plan.Quantities
)

var far = []int{math.MaxInt, math.MinInt, math.MaxInt - 1, math.MinInt + 1, math.MaxInt32, math.MinInt32, 1 << 40, -1 << 40}

// dale is the sheet of the chapter's example.
func dale(changes ...func(s *sheet)) sheet {
	s := sheet{
		Name: "dale", Base: 700, Batter: 100, Height: 1200, Skin: 250, Heights: []int{200, 180}, Least: 60, Lap: 60, Run: 2,
		Every: 900, At: 500, Footing: 200, Spread: 100, Cope: plan.Buck, Tall: 300, Short: 200, Thick: 150, Low: 500, High: 700, Rood: 6000,
	}
	for _, change := range changes {
		change(&s)
	}
	return s
}

const (
	daleText  = "sheet dale base 700 batter 100 height 1200 skin 250 heights 200 180 least 60 lap 60 run 2 through 900 500 footing 200 100 cope buck 300 200 150 friction 500 700 rood 6000\n"
	northText = "wall north dale 3000\nopen smoot 1000 250 0 220\n"
)

// upright is a sheet whose width is the same everywhere, so that its numbers may
// be anything that they may be by themselves.
func upright(changes ...func(s *sheet)) sheet {
	return dale(append([]func(s *sheet){func(s *sheet) { s.Base, s.Batter = 3000, 0 }}, changes...)...)
}

func smoot(at, width, from, high int) opening {
	return opening{Kind: plan.Smoot, At: at, Width: width, From: from, High: high}
}

// gap is a gate of the sheet dale.
func gap(at, width int) opening { return opening{plan.Gate, at, width, 0, 1200} }

// north is a wall of the sheet dale.
func north(length int, openings ...opening) wall {
	return wall{Name: "north", Sheet: "dale", Length: length, Openings: openings}
}

// example is the plan of the chapter.
func example() drawing { return of(dale(), north(3000, smoot(1000, 250, 0, 220))) }

// of returns a plan with a sheet.
func of(s sheet, walls ...wall) drawing { return drawing{Sheets: []sheet{s}, Walls: walls} }

// one is a plan of one wall of the sheet dale.
func one(length int, openings ...opening) drawing { return of(dale(), north(length, openings...)) }

func sheets(n int) []sheet {
	var l []sheet
	for i := range n {
		l = append(l, dale(func(s *sheet) { s.Name = fmt.Sprint("s", i) }))
	}
	return l
}

func walls(n int, name string) []wall {
	var l []wall
	for i := range n {
		l = append(l, wall{Name: fmt.Sprint("w", i), Sheet: name, Length: 1 + i})
	}
	return l
}

// smoots are beside each other.
func smoots(n int) []opening {
	var l []opening
	for i := range n {
		l = append(l, smoot(i, 1, 0, 1))
	}
	return l
}

var badNames = []string{"", "12345678901234567", "Dale", "da le", "da-le", "dal\xe9", "dalé", "dale\n", " dale", "dale ", "_", "`", "{", "/", ":", "@", "[", "\x00"}

// number is a number of a sheet, with its range.
type number struct {
	what        string
	of          func(s *sheet) *int
	least, most int
}

// numbers are those of the sheet upright.
func numbers() []number {
	return []number{
		{"Base", func(s *sheet) *int { return &s.Base }, 1, 3000},
		{"Batter", func(s *sheet) *int { return &s.Batter }, 0, 500},
		{"Height", func(s *sheet) *int { return &s.Height }, 1, 3000},
		{"Skin", func(s *sheet) *int { return &s.Skin }, 1, 1500},
		{"Heights", func(s *sheet) *int { return &s.Heights[0] }, 1, 1000},
		{"Least", func(s *sheet) *int { return &s.Least }, 1, 1000},
		{"Lap", func(s *sheet) *int { return &s.Lap }, 0, 500},
		{"Run", func(s *sheet) *int { return &s.Run }, 1, 20},
		{"Every", func(s *sheet) *int { return &s.Every }, 1, 100000},
		{"At", func(s *sheet) *int { return &s.At }, 0, 3000},
		{"Footing", func(s *sheet) *int { return &s.Footing }, 0, 1000},
		{"Spread", func(s *sheet) *int { return &s.Spread }, 0, 1000},
		{"Tall", func(s *sheet) *int { return &s.Tall }, 1, 1000},
		{"Short", func(s *sheet) *int { return &s.Short }, 1, 1000},
		{"Thick", func(s *sheet) *int { return &s.Thick }, 1, 1000},
		{"Low", func(s *sheet) *int { return &s.Low }, 0, 700},
		{"High", func(s *sheet) *int { return &s.High }, 500, 2000},
		{"Rood", func(s *sheet) *int { return &s.Rood }, 1, 100000},
	}
}

// badSheets are not valid, by what is wrong with them.
func badSheets() map[string]sheet {
	l := map[string]sheet{"nothing": {}}
	for _, n := range numbers() {
		for _, to := range append([]int{n.least - 1, n.most + 1}, far...) {
			l[fmt.Sprint(n.what, " ", to)] = upright(func(s *sheet) { *n.of(s) = to })
		}
	}
	for _, name := range badNames {
		l[fmt.Sprintf("the name %q", name)] = dale(func(s *sheet) { s.Name = name })
	}
	for what, heights := range map[string][]int{
		"no heights": nil, "an empty list": {}, "13 heights": repeated(100, 13), "a height of 0 at the end": {200, 180, 0}, "one above 1000": {200, 1001, 180}, "one below 0": {-1},
	} {
		l[what] = dale(func(s *sheet) { s.Heights = heights })
	}
	for cope := 4; cope < 256; cope += 63 {
		l[fmt.Sprint("the cope ", cope)] = dale(func(s *sheet) { s.Cope = uint8(cope) })
	}
	for _, kind := range []uint8{plan.Flat, plan.Upright} {
		for _, bad := range [][3]int{{300, 1, 150}, {300, -1, 150}, {0, 0, 150}, {300, 0, 0}, {1001, 0, 150}, {300, 0, 1001}, {0, 0, 0}} {
			l[fmt.Sprint("the cope ", kind, bad)] = coped(kind, bad)
		}
	}
	for _, bad := range [][3]int{{1, 0, 0}, {0, 1, 0}, {0, 0, 1}, {300, 200, 150}, {-1, 0, 0}, {0, -1, 0}, {0, 0, -1}} {
		l[fmt.Sprint("no cope ", bad)] = coped(plan.None, bad)
	}
	l["At without Every"] = dale(func(s *sheet) { s.Every, s.At = 0, 500 })
	l["At below 0 without Every"] = dale(func(s *sheet) { s.Every, s.At = 0, -1 })
	l["Low above High"] = dale(func(s *sheet) { s.Low, s.High = 701, 700 })
	l["no width on top"] = dale(func(s *sheet) { s.Base = 240 })
	l["less than no width on top"] = dale(func(s *sheet) { s.Base = 239 })
	l["101 courses"] = dale(func(s *sheet) { s.Height, s.Heights, s.Least = 101, []int{1}, 1 })
	l["100 courses and a rest"] = dale(func(s *sheet) { s.Height, s.Heights, s.Least = 1005, []int{10}, 5 })
	l["3000 courses"] = upright(func(s *sheet) { s.Height, s.Heights, s.Least = 3000, []int{1}, 1 })
	return l
}

func coped(kind uint8, numbers [3]int) sheet {
	return dale(func(s *sheet) { s.Cope, s.Tall, s.Short, s.Thick = kind, numbers[0], numbers[1], numbers[2] })
}

func repeated(n, times int) []int { return slices.Repeat([]int{n}, times) }

// badOpenings are not valid in a wall of the sheet dale that is 3000 long.
func badOpenings() map[string]opening {
	l := map[string]opening{"nothing": {}}
	for _, n := range append([]int{-1, 3001}, far...) {
		l[fmt.Sprint("At ", n)] = smoot(n, 1, 0, 1)
		l[fmt.Sprint("Width ", n)] = smoot(0, n, 0, 1)
		l[fmt.Sprint("At and Width ", n)] = smoot(n, n, 0, 1)
		l[fmt.Sprint("From ", n)] = smoot(0, 1, n, 1)
		l[fmt.Sprint("High ", n)] = smoot(0, 1, 0, n)
		l[fmt.Sprint("From and High ", n)] = smoot(0, 1, n, n)
	}
	for what, o := range map[string]opening{
		"the width 0": smoot(5, 0, 0, 1), "the height 0": smoot(5, 1, 5, 0), "beyond the end": smoot(2999, 2, 0, 1), "at the end": smoot(3000, 1, 0, 1),
		"above the top": smoot(0, 1, 1199, 2), "on the top": smoot(0, 1, 1200, 1), "so wide": smoot(1, math.MaxInt, 0, 1), "so high": smoot(0, 1, 1, math.MaxInt),
	} {
		l[what] = o
		o.Kind = plan.Lunky
		l["lunky, "+what] = o
	}
	for what, o := range map[string]opening{
		"a stile below the top": {plan.Stile, 0, 1, 600, 599}, "a stile above it": {plan.Stile, 0, 1, 600, 601}, "a gate below the top": {plan.Gate, 0, 1, 0, 1199}, "a gate above the ground": {plan.Gate, 0, 1, 1, 1199},
		"the kind 0": {0, 0, 1, 0, 1200}, "the kind 5": {5, 0, 1, 0, 1200}, "the kind 255": {255, 0, 1, 0, 1200},
	} {
		l[what] = o
	}
	return l
}

// badPairs are openings with a common inner point.
func badPairs() [][2]opening {
	a := smoot(100, 50, 200, 60)
	return [][2]opening{
		{a, a}, {a, smoot(149, 50, 259, 60)}, {a, smoot(51, 50, 141, 60)}, {a, smoot(149, 50, 141, 60)}, {a, smoot(51, 50, 259, 60)}, {a, smoot(110, 5, 210, 5)},
		{a, smoot(0, 3000, 230, 1)}, {a, smoot(120, 1, 0, 1200)}, {a, gap(0, 101)}, {a, gap(149, 2)}, {a, smoot(0, 3000, 0, 1200)}, {a, {plan.Lunky, 100, 50, 200, 60}}, {gap(0, 100), {plan.Stile, 99, 50, 1199, 1}},
	}
}

// badPlans are not valid, by what is wrong with them.
func badPlans() map[string]drawing {
	l := map[string]drawing{
		"a sheet's name twice":      {Sheets: []sheet{dale(), dale()}},
		"a sheet's name twice, far": {Sheets: append(sheets(10), sheets(1)...)},
		"21 sheets":                 {Sheets: sheets(21)},
		"a wall's name twice":       of(dale(), north(1), north(2)),
		"51 walls":                  {Sheets: sheets(1), Walls: walls(51, "s0")},
		"no sheets":                 {Walls: []wall{north(1)}},
		"another sheet":             {Sheets: sheets(3), Walls: []wall{north(1)}},
		"a sheet without a name":    of(dale(), wall{Name: "north", Length: 1}),
		"21 openings":               one(3000, smoots(21)...),
		"a bad wall behind others":  {Sheets: sheets(1), Walls: append(walls(5, "s0"), wall{Name: "x", Sheet: "s0"})},
		// The height of the wall's own sheet counts.
		"the lower sheet": {Sheets: []sheet{dale(), dale(func(s *sheet) { s.Name, s.Height = "low", 600 })}, Walls: []wall{{"x", "low", 99, []opening{smoot(0, 1, 0, 601)}}}},
	}
	for what, s := range badSheets() {
		l["a sheet, "+what] = of(s)
		l["the last sheet, "+what] = drawing{Sheets: append(sheets(2), s), Walls: walls(1, "s0")}
	}
	for _, name := range badNames {
		l[fmt.Sprintf("a wall, the name %q", name)] = of(dale(), wall{Name: name, Sheet: "dale", Length: 1})
	}
	for _, n := range append([]int{0, -1, api.MaxFar + 1}, far...) {
		l[fmt.Sprint("a wall, the length ", n)] = one(n)
	}
	for what, o := range badOpenings() {
		l["an opening, "+what] = one(3000, o)
		l["the last opening, "+what] = one(3000, gap(1000, 1), gap(2000, 1), o)
	}
	for _, pair := range badPairs() {
		l[fmt.Sprint("openings ", pair)] = one(3000, pair[0], pair[1])
		l[fmt.Sprint("openings ", pair, ", the other way")] = one(3000, pair[1], smoot(2999, 1, 0, 1), pair[0])
	}
	return l
}

// Random plans.

func pick[T any](x *rand.Rand, l ...T) T { return l[x.Intn(len(l))] }

// upTo returns a number from least to most, both of them often.
func upTo(x *rand.Rand, least, most int) int {
	return pick(x, least, most, least+x.Intn(most-least+1), least+x.Intn(most-least+1), least+x.Intn(most-least+1))
}

// randomSheet is valid; small, if high is.
func randomSheet(x *rand.Rand, name string, high int) sheet {
	s := sheet{
		Name: name, Height: upTo(x, 1, high), Batter: upTo(x, 0, 500), Skin: upTo(x, 1, pick(x, 5, 20, 1500)), Least: upTo(x, 1, pick(x, 5, 20, 1000)),
		Lap: upTo(x, 0, 500), Run: upTo(x, 1, 20), Footing: upTo(x, 0, 1000), Spread: upTo(x, 0, 1000), High: upTo(x, 0, 2000), Rood: upTo(x, 1, pick(x, 3, 100, 100000)),
	}
	s.Low = upTo(x, 0, s.High)
	s.Batter = min(s.Batter, 1499*1000/s.Height)
	least := 2*(s.Batter*s.Height/1000) + 1
	s.Base = upTo(x, least, pick(x, 3000, min(3000, least+30)))
	for range 1 + x.Intn(pick(x, 1, 3, 12)) {
		s.Heights = append(s.Heights, upTo(x, max(1, high/50), max(1, high/3)))
	}
	if x.Intn(5) != 0 {
		s.Every, s.At = upTo(x, 1, pick(x, 3, 20, 50)), upTo(x, 0, min(high+1, 3000))
	}
	s.Cope = uint8(x.Intn(4))
	if s.Cope != plan.None {
		s.Tall, s.Thick = upTo(x, 1, 1000), upTo(x, 1, pick(x, 2, 10, 1000))
	}
	if s.Cope == plan.Buck {
		s.Short = upTo(x, 1, 1000)
	}
	return s
}

// randomOpening is valid but for others.
func randomOpening(x *rand.Rand, length int, s sheet) opening {
	o := opening{Kind: uint8(1 + x.Intn(4)), At: upTo(x, 0, length-1)}
	o.Width = upTo(x, 1, pick(x, length, min(3, length)))
	o.Width = min(o.Width, length-o.At)
	if o.Kind != plan.Gate {
		o.From = upTo(x, 0, s.Height-1)
	}
	o.High = s.Height - o.From
	if o.Kind == plan.Smoot || o.Kind == plan.Lunky {
		o.High = upTo(x, 1, o.High)
	}
	return o
}

// randomWall is valid.
func randomWall(x *rand.Rand, name string, s sheet, length int) wall {
	w := wall{Name: name, Sheet: s.Name, Length: upTo(x, 1, length)}
	for range x.Intn(pick(x, 1, 4, 30)) {
		o := randomOpening(x, w.Length, s)
		if len(w.Openings) < api.MaxOpenings && !slices.ContainsFunc(w.Openings, func(p opening) bool { return meet(o, p) }) {
			w.Openings = append(w.Openings, o)
		}
	}
	return w
}

// randomPlan is valid.
func randomPlan(x *rand.Rand, manySheets, manyWalls, high, length int) drawing {
	var p drawing
	for i := range manySheets {
		p.Sheets = append(p.Sheets, randomSheet(x, fmt.Sprint("s", i), high))
	}
	for i := range manyWalls {
		p.Walls = append(p.Walls, randomWall(x, fmt.Sprint("w", i), pick(x, p.Sheets...), length))
	}
	return p
}

// randomSites calls a test with many plans of one wall, called w0.
func randomSites(t *testing.T, seed int64, count int, test func(p drawing, s sheet, w wall)) {
	t.Helper()
	x := rand.New(rand.NewSource(seed))
	for n := range count {
		p := randomPlan(x, 1, 1, 40, 60)
		if n%10 == 0 {
			p = randomPlan(x, 1, 1, 3000, 3000)
		}
		wantErr(t, fmt.Sprint("a valid plan ", p), plan.Check(p), api.OK)
		wantKept(t, p, func() { test(p, p.Sheets[0], p.Walls[0]) })
	}
}

// What is wanted.

func wantErr(t *testing.T, what string, got, want api.Errno) {
	t.Helper()
	if got != want {
		t.Errorf("%s: %v, want %v", what, got, want)
	}
}

func want[A any](t *testing.T, what string, got, want A) {
	t.Helper()
	if !reflect.DeepEqual(got, want) {
		t.Errorf("%s: %v, want %v", what, got, want)
	}
}

// wantList takes a nil list for an empty one.
func wantList[A comparable](t *testing.T, what string, got []A, want ...A) {
	t.Helper()
	if !slices.Equal(got, want) {
		t.Errorf("%s: %v, want %v", what, got, want)
	}
}

// wantPlan takes nil lists for empty ones.
func wantPlan(t *testing.T, what string, got, want drawing) {
	t.Helper()
	if g, w := copied(got), copied(want); !reflect.DeepEqual(g, w) {
		t.Errorf("%s: %v, want %v", what, g, w)
	}
}

func ok[A any](t *testing.T) func(a A, e api.Errno) A {
	return func(a A, e api.Errno) A {
		t.Helper()
		if e != api.OK {
			t.Errorf("%v, want OK", e)
		}
		return a
	}
}

// parsed wants a text that has no error.
func parsed(t *testing.T, text string) drawing {
	t.Helper()
	p, line, e := plan.Parse(text)
	want(t, shown(text), []any{line, e}, []any{0, api.OK})
	return p
}

func shown(text string) string {
	if len(text) > 1000 {
		return fmt.Sprintf("%.300q .. %.300q", text, text[len(text)-300:])
	}
	return fmt.Sprintf("%q", text)
}

// copied has no empty lists, but nil ones.
func copied(p drawing) drawing {
	var c drawing
	for _, s := range p.Sheets {
		s.Heights = append([]int(nil), s.Heights...)
		c.Sheets = append(c.Sheets, s)
	}
	for _, w := range p.Walls {
		w.Openings = append([]opening(nil), w.Openings...)
		c.Walls = append(c.Walls, w)
	}
	return c
}

// wantKept fails if calls have changed a plan.
func wantKept(t *testing.T, p drawing, calls func()) {
	t.Helper()
	before := copied(p)
	calls()
	wantPlan(t, "the argument of a call", p, before)
}
