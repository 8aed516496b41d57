package stone_test

import (
	"fmt"
	"math/rand"
	"slices"
	"strings"
	"testing"

	"copestone/api"
	"copestone/stone"
)

// P2.1: Check.

func TestCheckTakesValidStones(t *testing.T) {
	for _, s := range some(1) {
		wantErr(t, fmt.Sprint(s), stone.Check(s), api.OK)
	}
	for _, name := range []string{"a", "z", "0", "9", "a0z9", "1234567890123456"} {
		s := brick()
		s.Name = name
		wantErr(t, name, stone.Check(s), api.OK)
	}
	for _, g := range []point{{100, 100}, {-100, -100}, {0, 1}, {-1, 0}, {1, -100}} {
		s := brick()
		s.Grain = g
		wantErr(t, fmt.Sprint(g), stone.Check(s), api.OK)
	}
	s := brick()
	s.Depth, s.Density = 1, 1
	wantErr(t, "least depth and density", stone.Check(s), api.OK)
	s.Depth, s.Density = api.MaxSide, api.MaxDensity
	wantErr(t, "greatest depth and density", stone.Check(s), api.OK)
}

func TestCheckTakesShapesInTheirPlace(t *testing.T) {
	for _, l := range [][]point{
		{{0, 0}, {1, 0}, {0, 1}},
		{{1, 0}, {2, 1}, {0, 2}},
		{{5, 0}, {6, 0}, {0, 1}},
		{{0, 0}, {2000, 0}, {2000, 2000}, {0, 2000}},
		twelve(),
	} {
		wantErr(t, fmt.Sprint(l), stone.Check(shaped("s", l...)), api.OK)
	}
}

func TestCheckRefusesOthers(t *testing.T) {
	for what, s := range broken() {
		wantErr(t, what, stone.Check(s), api.ErrArg)
	}
}

func TestCheckTakesHullsAlone(t *testing.T) {
	r := rand.New(rand.NewSource(2))
	for range 20000 {
		var l []point
		for range 3 + r.Intn(3) {
			l = append(l, point{r.Intn(5), r.Intn(5)})
		}
		want := api.ErrArg
		if slices.Equal(l, moved(wrapped(l))) && len(l) > 2 {
			want = api.OK
		}
		wantErr(t, fmt.Sprint(l), stone.Check(shaped("s", l...)), want)
	}
}

// All calls with a stone: ErrArg comes before all other errors, with zero results.

func TestInvalidStones(t *testing.T) {
	for what, s := range broken() {
		n, e := stone.Twice(s)
		want(t, what, []any{n, e}, []any{int64(0), api.ErrArg})
		n, e = stone.Weight(s)
		want(t, what, []any{n, e}, []any{int64(0), api.ErrArg})
		n, e = stone.Sure(s, point{-1, 0}, -1)
		want(t, what, []any{n, e}, []any{int64(0), api.ErrArg})
		mx, mz, by, e := stone.Centre(s)
		want(t, what, []any{mx, mz, by, e}, []any{int64(0), int64(0), int64(0), api.ErrArg})
		a, b, e := stone.Extent(s)
		want(t, what, []any{a, b, e}, []any{0, 0, api.ErrArg})
		a, b, e = stone.Bed(s)
		want(t, what, []any{a, b, e}, []any{0, 0, api.ErrArg})
		v, e := stone.Turned(s, 8)
		want(t, what, []any{v, e}, []any{stone.Stone{}, api.ErrArg})
		l, e := stone.Border(s)
		want(t, what, []any{len(l), e}, []any{0, api.ErrArg})
		l, e = stone.Outcomes(s, point{-1, 0}, -1)
		want(t, what, []any{len(l), e}, []any{0, api.ErrArg})
		v, w, e := stone.Split(s, point{-1, 0}, point{-1, 0})
		want(t, what, []any{v, w, e}, []any{stone.Stone{}, stone.Stone{}, api.ErrArg})
		v, w, e = stone.Chip(s, -1, 0, 0)
		want(t, what, []any{v, w, e}, []any{stone.Stone{}, stone.Stone{}, api.ErrArg})
	}
}

// P2.1: Hull.

func TestHull(t *testing.T) {
	for _, c := range []struct{ points, hull []point }{
		{[]point{{3, 1}, {1, 1}, {2, 2}, {1, 3}, {2, 1}}, []point{{0, 0}, {2, 0}, {0, 2}}},
		{[]point{{0, 0}, {0, 0}, {1, 0}, {0, 1}, {1, 0}}, []point{{0, 0}, {1, 0}, {0, 1}}},
		{[]point{{-2000, -2000}, {0, -2000}, {0, 0}}, []point{{0, 0}, {2000, 0}, {2000, 2000}}},
		{[]point{{2000, 2000}, {2000, 0}, {0, 2000}}, []point{{2000, 0}, {2000, 2000}, {0, 2000}}},
		{[]point{{0, 2}, {1, 0}, {2, 2}, {1, 4}, {1, 2}, {1, 1}, {1, 3}}, []point{{1, 0}, {2, 2}, {1, 4}, {0, 2}}},
		{[]point{{0, 0}, {4, 0}, {4, 4}, {0, 4}, {2, 0}, {4, 2}, {2, 4}, {0, 2}, {2, 2}}, []point{{0, 0}, {4, 0}, {4, 4}, {0, 4}}},
		{[]point{{5, 7}, {6, 7}, {0, 8}}, []point{{5, 0}, {6, 0}, {0, 1}}},
		{twelve(), twelve()},
	} {
		l, e := stone.Hull(c.points)
		wantErr(t, fmt.Sprint(c.points), e, api.OK)
		wantPoints(t, fmt.Sprint(c.points), l, c.hull)
	}
}

func TestHullOfRandomPoints(t *testing.T) {
	r := rand.New(rand.NewSource(3))
	for range 3000 {
		side := 1 + r.Intn(1+r.Intn(40))
		var l []point
		for range r.Intn(25) {
			l = append(l, point{r.Intn(2*side+1) - side, r.Intn(2*side+1) - side})
		}
		kept := slices.Clone(l)
		got, e := stone.Hull(l)
		wantPoints(t, "the argument", l, kept)
		hull := moved(wrapped(l))
		switch {
		case len(hull) < 3:
			wantErr(t, fmt.Sprint(l), e, api.ErrArg)
			hull = nil
		case len(hull) > api.MaxShape:
			wantErr(t, fmt.Sprint(l), e, api.ErrLimit)
			hull = nil
		default:
			wantErr(t, fmt.Sprint(l), e, api.OK)
			wantErr(t, "the hull as a stone", stone.Check(shaped("s", got...)), api.OK)
		}
		wantPoints(t, fmt.Sprint(l), got, hull)
	}
}

func TestHullErrors(t *testing.T) {
	round := append(twelve(), point{-10, -11}, point{-11, -10})
	cases := []struct {
		points []point
		e      api.Errno
	}{
		{nil, api.ErrArg},
		{[]point{}, api.ErrArg},
		{[]point{{1, 1}}, api.ErrArg},
		{[]point{{1, 1}, {1, 1}, {1, 1}}, api.ErrArg},
		{[]point{{1, 1}, {2, 2}}, api.ErrArg},
		{[]point{{1, 1}, {2, 2}, {-2000, -2000}, {2000, 2000}}, api.ErrArg},
		{[]point{{0, 0}, {5, 0}, {3, 0}}, api.ErrArg},
		{[]point{{0, 0}, {0, 5}, {0, 3}}, api.ErrArg},
		{[]point{{2001, 0}}, api.ErrRange},
		{[]point{{0, 2001}}, api.ErrRange},
		{[]point{{0, 0}, {-2001, 0}}, api.ErrRange},
		{[]point{{0, 0}, {1, 0}, {0, 1}, {0, -2001}}, api.ErrRange},
		{[]point{{-1, 0}, {2000, 0}, {0, 1}}, api.ErrLimit},
		{[]point{{0, -1}, {1, 0}, {0, 2000}}, api.ErrLimit},
		{[]point{{-2000, -2000}, {2000, 2000}, {2000, -2000}}, api.ErrLimit},
		{[]point{{3, 0}, {6, 0}, {8, 1}, {9, 2}, {10, 4}, {10, 7}, {8, 9}, {6, 10}, {3, 10}, {1, 9}, {0, 7}, {0, 4}, {1, 1}}, api.ErrLimit},
		{append(round, point{2001, 0}), api.ErrRange},
	}
	for _, n := range far {
		cases = append(cases, struct {
			points []point
			e      api.Errno
		}{[]point{{0, 0}, {n, 1}, {1, n}}, api.ErrRange})
	}
	for _, c := range cases {
		l, e := stone.Hull(c.points)
		wantErr(t, fmt.Sprint(c.points), e, c.e)
		want(t, fmt.Sprint(c.points), len(l), 0)
	}
}

func TestHullOfManyPoints(t *testing.T) {
	var l []point
	for x := range 301 {
		for z := range 301 {
			l = append(l, point{x, -z})
		}
	}
	wantPoints(t, "a square", ok[[]point](t)(stone.Hull(l)), []point{{0, 0}, {300, 0}, {300, 300}, {0, 300}})
}

// P2.2: Twice, Weight, Centre.

func TestBrick(t *testing.T) {
	want(t, "Twice", ok[int64](t)(stone.Twice(brick())), 32000)
	want(t, "Weight", ok[int64](t)(stone.Weight(brick())), 7680000000)
	mx, mz, by, e := stone.Centre(brick())
	want(t, "Centre", []any{mx, mz, by, e}, []any{int64(9600000), int64(3840000), int64(96000), api.OK})
}

func TestGreatestWeight(t *testing.T) {
	s := box("m", 2000, 2000)
	s.Depth, s.Density = 2000, 10000
	want(t, "Weight", ok[int64](t)(stone.Weight(s)), 8000000*2000*10000)
	mx, mz, by, e := stone.Centre(s)
	want(t, "Centre", []any{mx, mz, by, e}, []any{int64(24000000000), int64(24000000000), int64(24000000), api.OK})
}

// The area and the centre are found again from triangles that begin at one corner.
func TestTwiceWeightCentre(t *testing.T) {
	for _, s := range some(4) {
		var twice, x, z int64
		l := s.Shape
		for i := 2; i < len(l); i++ {
			area := int64(turn(l[0], l[i-1], l[i]))
			twice += area
			x += area * int64(l[0].X+l[i-1].X+l[i].X)
			z += area * int64(l[0].Z+l[i-1].Z+l[i].Z)
		}
		want(t, "Twice", ok[int64](t)(stone.Twice(s)), twice)
		want(t, "Weight", ok[int64](t)(stone.Weight(s)), twice*int64(s.Depth)*int64(s.Density))
		mx, mz, by, e := stone.Centre(s)
		want(t, fmt.Sprint("Centre of ", s), []any{mx, mz, by, e}, []any{x, z, 3 * twice, api.OK})
	}
}

// P2.3: Extent, Bed.

func TestExtentAndBed(t *testing.T) {
	for _, c := range []struct {
		shape                []point
		wide, high, from, to int
	}{
		{brick().Shape, 200, 80, 0, 200},
		{[]point{{1, 0}, {2, 1}, {0, 2}}, 2, 2, 1, 1},
		{[]point{{5, 0}, {6, 0}, {0, 1}}, 6, 1, 5, 6},
		{[]point{{0, 0}, {7, 3}, {7, 4}}, 7, 4, 0, 0},
		{[]point{{5, 0}, {5, 1}, {0, 6}}, 5, 6, 5, 5},
		{twelve(), 9, 9, 3, 6},
	} {
		wide, high, e := stone.Extent(shaped("s", c.shape...))
		want(t, fmt.Sprint("Extent of ", c.shape), []any{wide, high, e}, []any{c.wide, c.high, api.OK})
		from, to, e := stone.Bed(shaped("s", c.shape...))
		want(t, fmt.Sprint("Bed of ", c.shape), []any{from, to, e}, []any{c.from, c.to, api.OK})
	}
}

func TestExtentAndBedOfRandomStones(t *testing.T) {
	for _, s := range some(5) {
		var far point
		var low []int
		for _, p := range s.Shape {
			far = point{max(far.X, p.X), max(far.Z, p.Z)}
			if p.Z == 0 {
				low = append(low, p.X)
			}
		}
		wide, high, e := stone.Extent(s)
		want(t, "Extent", []any{wide, high, e}, []any{far.X, far.Z, api.OK})
		from, to, e := stone.Bed(s)
		want(t, "Bed", []any{from, to, e}, []any{slices.Min(low), slices.Max(low), api.OK})
	}
}

// P2.4: Turned.

func TestTurnedBrick(t *testing.T) {
	s := ok[stone.Stone](t)(stone.Turned(brick(), 1))
	wantPoints(t, "corners", s.Shape, []point{{0, 0}, {80, 0}, {80, 200}, {0, 200}})
	want(t, "grain", s.Grain, point{0, 1})
}

func TestTurned(t *testing.T) {
	s := shaped("s", point{1, 0}, point{4, 1}, point{0, 2})
	for way, c := range []struct {
		shape []point
		grain point
	}{
		{[]point{{1, 0}, {4, 1}, {0, 2}}, point{2, -1}},
		{[]point{{0, 0}, {2, 1}, {1, 4}}, point{1, 2}},
		{[]point{{4, 0}, {3, 2}, {0, 1}}, point{-2, 1}},
		{[]point{{1, 0}, {2, 4}, {0, 3}}, point{-1, -2}},
		{[]point{{3, 0}, {4, 2}, {0, 1}}, point{-2, -1}},
		{[]point{{1, 0}, {2, 3}, {0, 4}}, point{1, -2}},
		{[]point{{0, 0}, {4, 1}, {1, 2}}, point{2, 1}},
		{[]point{{2, 0}, {1, 4}, {0, 1}}, point{-1, 2}},
	} {
		got := ok[stone.Stone](t)(stone.Turned(s, way))
		want(t, fmt.Sprint("way ", way), got, stone.Stone{Name: "s", Shape: c.shape, Depth: 7, Density: 3, Grain: c.grain})
	}
}

// turned follows the words of the chapter, step by step.
func turned(s stone.Stone, way int) stone.Stone {
	to := func(p point) point {
		if way >= 4 {
			p.X = -p.X
		}
		for range way % 4 {
			p.X, p.Z = -p.Z, p.X
		}
		return p
	}
	var l []point
	for _, p := range s.Shape {
		l = append(l, to(p))
	}
	s.Shape, s.Grain = moved(wrapped(l)), to(s.Grain)
	return s
}

func TestTurnedRandomStones(t *testing.T) {
	for _, s := range some(6) {
		for way := range 8 {
			wantKept(t, "Turned", s, func() {
				want(t, fmt.Sprint(s, " in the way ", way), ok[stone.Stone](t)(stone.Turned(s, way)), turned(s, way))
			})
		}
	}
}

func TestTurnedSharesNoList(t *testing.T) {
	s := brick()
	for way := range 8 {
		v, _ := stone.Turned(s, way)
		v.Shape[0] = point{9, 9}
		want(t, "the stone", s, brick())
	}
}

func TestTurnedErrors(t *testing.T) {
	for _, way := range append([]int{-1, 8, 12}, far...) {
		s, e := stone.Turned(brick(), way)
		want(t, fmt.Sprint("way ", way), []any{s, e}, []any{stone.Stone{}, api.ErrRange})
	}
}

// P2.11: ways keep weight and corners; the way 0 changes nothing, nor do 1 four
// times and 4 twice; two ways are together one of the ways.

func TestWays(t *testing.T) {
	turn := func(s stone.Stone, ways ...int) stone.Stone {
		for _, way := range ways {
			s = ok[stone.Stone](t)(stone.Turned(s, way))
		}
		return s
	}
	for _, s := range some(7) {
		want(t, "the way 0", turn(s, 0), s)
		want(t, "the way 1, four times", turn(s, 1, 1, 1, 1), s)
		want(t, "the way 4, twice", turn(s, 4, 4), s)
		var all []string
		for way := range 8 {
			v := turn(s, way)
			all = append(all, fmt.Sprint(v))
			wantErr(t, "a turned stone", stone.Check(v), api.OK)
			want(t, "corners", len(v.Shape), len(s.Shape))
			want(t, "weight", ok[int64](t)(stone.Weight(v)), ok[int64](t)(stone.Weight(s)))
		}
		for w := range 8 {
			for v := range 8 {
				if both := fmt.Sprint(turn(s, w, v)); !slices.Contains(all, both) {
					t.Errorf("%v by %d and %d: %s, which is none of %s", s, w, v, both, strings.Join(all, "; "))
				}
			}
		}
	}
}
