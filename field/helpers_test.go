package field_test

import (
	"fmt"
	"math"
	"math/rand"
	"reflect"
	"slices"
	"testing"

	"copestone/api"
	"copestone/field"
	"copestone/plan"
)

// The tests hold the package against slow ways that follow the words of the
// chapter (slow_test.go): they go all walks, and close all sets of borders.

type (
	border  = field.Border
	chart   = field.Map
	animal  = field.Animal
	step    = field.Step
	place   = field.Place
	sheet   = plan.Sheet
	opening = plan.Opening
	wall    = plan.Wall
	drawing = plan.Plan
)

var far = []int{math.MaxInt, math.MinInt, math.MaxInt - 1, math.MinInt + 1, math.MaxInt32, math.MinInt32, 1 << 40, -1 << 40}

// dale is the sheet of the example of chapter 6: 700 wide at the ground, 460 on top.
func dale(changes ...func(s *sheet)) sheet {
	s := sheet{
		Name: "dale", Base: 700, Batter: 100, Height: 1200, Skin: 250, Heights: []int{200, 180}, Least: 60, Lap: 60, Run: 2,
		Every: 900, At: 500, Footing: 200, Spread: 100, Cope: plan.Buck, Tall: 300, Short: 200, Thick: 150, Low: 500, High: 700, Rood: 6000,
	}
	for _, change := range changes {
		change(&s)
	}
	return s
}

func at1000(kind uint8, width, from, high int) opening {
	return opening{Kind: kind, At: 1000, Width: width, From: from, High: high}
}

func smoot(width, from, high int) opening { return at1000(plan.Smoot, width, from, high) }

func lunky(width, from, high int) opening { return at1000(plan.Lunky, width, from, high) }

// stile is one of the sheet dale.
func stile(width, from int) opening { return at1000(plan.Stile, width, from, 1200-from) }

// gate is one of the sheet dale.
func gate(width int) opening { return at1000(plan.Gate, width, 0, 1200) }

// beside moves an opening along the wall.
func beside(o opening, by int) opening {
	o.At += by
	return o
}

// north is a plan of a wall with these openings.
func north(openings ...opening) drawing {
	return drawing{Sheets: []sheet{dale()}, Walls: []wall{{Name: "north", Sheet: "dale", Length: 3000, Openings: openings}}}
}

// example is the plan of the chapter.
func example() drawing { return north(smoot(250, 0, 220)) }

// moor is the map of the chapter, with these grounds.
func moor(a, b int) chart {
	return chart{Cells: []string{"moor", "croft"}, Borders: []border{{0, 1, "north", a, b, false}}}
}

var (
	hare = animal{150, 200, 100, 600, 300}
	ewe  = animal{400, 700, 250, 1100, 600}
)

// bird gets across every wall.
var bird = animal{0, 0, 10000, 10000, 10000}

// names returns so many different names.
func names(n int) []string {
	var l []string
	for i := range n {
		l = append(l, fmt.Sprint("c", i))
	}
	return l
}

// goat leaps 4, and gets across no wall but a low one.
var goat = animal{Leap: 4, Reach: 10, Wide: 1}

// ladder is a plan with walls that the animal goat crosses with the efforts 1, 2, .. 5
// (called w1, w2 .. w5), or not at all (w0).
func ladder() drawing {
	var p drawing
	for i := range 6 {
		s := dale(func(s *sheet) {
			s.Name, s.Base, s.Batter, s.Height, s.Heights, s.Least, s.At = fmt.Sprint("s", i), 10, 0, max(i, 1), []int{10}, 1, 0
			s.Cope, s.Tall, s.Short, s.Thick = plan.None, 0, 0, 0
		})
		w := wall{Name: fmt.Sprint("w", i), Sheet: s.Name, Length: 100}
		if i == 0 {
			s.Base = 11
		} else {
			w.Openings = []opening{{Kind: plan.Stile, At: 10, Width: 1, From: i - 1, High: 1}}
		}
		p.Sheets, p.Walls = append(p.Sheets, s), append(p.Walls, w)
	}
	return p
}

// link is a border with one of the ladder's walls. The best way across is the stile,
// number 0; over the wall is 1 more, and too high for w5.
func link(a, b int, effort int) border {
	return border{A: a, B: b, Wall: fmt.Sprint("w", effort)}
}

// oneWay is a border that the animal goat crosses from A to B only, with the effort 1.
func oneWay(a, b int) border { return border{A: a, B: b, Wall: "w1", GroundA: 0, GroundB: -100} }

func charted(cells int, borders ...border) chart { return chart{names(cells), borders} }

// grid is a map of so many rows and columns, whose borders have these efforts in turn.
func grid(rows, columns int, efforts ...int) chart {
	m := charted(rows * columns)
	add := func(a, b int) {
		m.Borders = append(m.Borders, link(a, b, efforts[len(m.Borders)%len(efforts)]))
	}
	for r := range rows {
		for c := range columns {
			at := r*columns + c
			if c+1 < columns {
				add(at, at+1)
			}
			if r+1 < rows {
				add(at, at+columns)
			}
		}
	}
	return m
}

// Random plans, maps and animals: their numbers are small, so that it often
// depends on 1 whether there is a way.

func pick[T any](x *rand.Rand, l ...T) T { return l[x.Intn(len(l))] }

// upTo returns a number from least to most.
func upTo(x *rand.Rand, least, most int) int { return least + x.Intn(most-least+1) }

func randomSheet(x *rand.Rand, name string) sheet {
	return dale(func(s *sheet) {
		s.Name, s.Height, s.Batter, s.Heights, s.Least, s.At = name, upTo(x, 2, 12), upTo(x, 0, 500), []int{upTo(x, 1, 5)}, 1, 0
		s.Base = 2*(s.Batter*s.Height/1000) + upTo(x, 1, 6)
		s.Cope = uint8(x.Intn(4))
		s.Tall, s.Short, s.Thick = upTo(x, 1, 4), 0, 5
		switch s.Cope {
		case plan.None:
			s.Tall, s.Thick = 0, 0
		case plan.Buck:
			s.Short = 1
		}
	})
}

// randomWall has openings beside each other.
func randomWall(x *rand.Rand, name string, s sheet) wall {
	w := wall{Name: name, Sheet: s.Name, Length: 200}
	for i := range x.Intn(pick(x, 1, 3, 6)) {
		o := opening{Kind: uint8(1 + x.Intn(4)), At: 10 * i, Width: upTo(x, 1, 8)}
		if o.Kind != plan.Gate {
			o.From = x.Intn(s.Height)
		}
		o.High = s.Height - o.From
		if o.Kind == plan.Smoot || o.Kind == plan.Lunky {
			o.High = upTo(x, 1, o.High)
		}
		w.Openings = append(w.Openings, o)
	}
	return w
}

func randomPlan(x *rand.Rand) drawing {
	var p drawing
	for i := range 1 + x.Intn(3) {
		p.Sheets = append(p.Sheets, randomSheet(x, fmt.Sprint("s", i)))
	}
	for i := range 1 + x.Intn(5) {
		p.Walls = append(p.Walls, randomWall(x, fmt.Sprint("w", i), pick(x, p.Sheets...)))
	}
	return p
}

func randomBorder(x *rand.Rand, cells int, p drawing) border {
	a := x.Intn(cells)
	b := (a + 1 + x.Intn(cells-1)) % cells
	return border{a, b, pick(x, p.Walls...).Name, upTo(x, -3, 10), upTo(x, -3, 10), x.Intn(3) == 0}
}

func randomMap(x *rand.Rand, cells, borders int, p drawing) chart {
	m := charted(cells)
	for range borders {
		m.Borders = append(m.Borders, randomBorder(x, cells, p))
	}
	return m
}

func randomAnimal(x *rand.Rand) animal {
	return animal{upTo(x, 0, 6), upTo(x, 0, 6), upTo(x, 0, 8), upTo(x, 0, 14), upTo(x, 0, 10)}
}

// lands calls a test with many small maps; every eighth has only efforts of a ladder,
// so that walks are equally good.
func lands(t *testing.T, seed int64, count int, test func(x *rand.Rand, p drawing, m chart, a animal)) {
	t.Helper()
	x := rand.New(rand.NewSource(seed))
	for n := range count {
		p, a := randomPlan(x), randomAnimal(x)
		m := randomMap(x, upTo(x, 2, 6), x.Intn(10), p)
		if n%8 == 0 {
			p, a = ladder(), goat
			m = charted(upTo(x, 2, 6))
			for range x.Intn(10) {
				b := randomBorder(x, len(m.Cells), p)
				m.Borders = append(m.Borders, pick(x, link(b.A, b.B, upTo(x, 0, 3)), oneWay(b.A, b.B)))
			}
		}
		wantKept(t, p, m, func() { test(x, p, m, a) })
	}
}

// wideLands calls a test with maps as great as may be.
func wideLands(t *testing.T, seed int64, count int, test func(x *rand.Rand, p drawing, m chart, a animal)) {
	t.Helper()
	x := rand.New(rand.NewSource(seed))
	for range count {
		p, a := randomPlan(x), randomAnimal(x)
		a.Leap, a.Reach = a.Leap+5, a.Reach+3
		m := randomMap(x, pick(x, 10, 20, api.MaxCells), api.MaxBorders, p)
		wantKept(t, p, m, func() { test(x, p, m, a) })
	}
}

// What is wanted.

func wantErr(t *testing.T, what string, got, want api.Errno) {
	t.Helper()
	if got != want {
		t.Errorf("%s: %v, want %v", what, got, want)
	}
}

func want[A comparable](t *testing.T, what string, got, want A) {
	t.Helper()
	if got != want {
		t.Errorf("%s: %v, want %v", what, got, want)
	}
}

// wantList takes a nil list for an empty one.
func wantList[A comparable](t *testing.T, what string, got []A, want ...A) {
	t.Helper()
	if !slices.Equal(got, want) {
		t.Errorf("%s: %v, want %v", what, got, want)
	}
}

func ok[A any](t *testing.T) func(a A, e api.Errno) A {
	return func(a A, e api.Errno) A {
		t.Helper()
		if e != api.OK {
			t.Errorf("%v, want OK", e)
		}
		return a
	}
}

// wantKept fails if calls have changed a plan or a map.
func wantKept(t *testing.T, p drawing, m chart, calls func()) {
	t.Helper()
	before, borders, cells := fmt.Sprint(p), slices.Clone(m.Borders), slices.Clone(m.Cells)
	calls()
	want(t, "the plan of a call", fmt.Sprint(p), before)
	wantList(t, "the borders of a call", m.Borders, borders...)
	wantList(t, "the cells of a call", m.Cells, cells...)
}

func same(a, b any) bool { return reflect.DeepEqual(a, b) }
