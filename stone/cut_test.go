package stone_test

import (
	"fmt"
	"math/rand"
	"slices"
	"testing"

	"copestone/api"
	"copestone/stone"
)

// borderOf walks along each edge through all places of its box.
func borderOf(s stone.Stone) []point {
	var l []point
	for i, a := range s.Shape {
		b := s.Shape[(i+1)%len(s.Shape)]
		var edge []point
		for x := min(a.X, b.X); x <= max(a.X, b.X); x++ {
			for z := min(a.Z, b.Z); z <= max(a.Z, b.Z); z++ {
				if p := (point{x, z}); p != b && onEdge(p, a, b) {
					edge = append(edge, p)
				}
			}
		}
		slices.SortFunc(edge, func(p, q point) int {
			return (p.X-a.X)*(p.X-a.X) + (p.Z-a.Z)*(p.Z-a.Z) - (q.X-a.X)*(q.X-a.X) - (q.Z-a.Z)*(q.Z-a.Z)
		})
		l = append(l, edge...)
	}
	return l
}

func canCut(s stone.Stone, p, q point) bool {
	for i, a := range s.Shape {
		b := s.Shape[(i+1)%len(s.Shape)]
		if onEdge(p, a, b) && onEdge(q, a, b) {
			return false
		}
	}
	return true
}

// side returns the hull of p, q and the corners to the left (1) or the right (-1)
// of the way from p to q, where they are.
func side(s stone.Stone, p, q point, sign int) []point {
	l := []point{p, q}
	for _, c := range s.Shape {
		if turn(p, q, c)*sign > 0 {
			l = append(l, c)
		}
	}
	return wrapped(l)
}

func twiceOf(l []point) int64 {
	var sum int64
	for i, a := range l {
		b := l[(i+1)%len(l)]
		sum += int64(a.X*b.Z - b.X*a.Z)
	}
	return sum
}

func piece(s stone.Stone, letter string, l []point) stone.Stone {
	s.Name += letter
	s.Shape = moved(l)
	return s
}

// small returns stones with few border points, so that all pairs can be tried.
func small(seed int64) []stone.Stone {
	r := rand.New(rand.NewSource(seed))
	l := []stone.Stone{box("b", 4, 3), shaped("t", point{0, 0}, point{1, 0}, point{0, 1}), shaped("d", point{3, 0}, point{6, 4}, point{3, 8}, point{0, 4}), shaped("s", twelve()...)}
	for range 25 {
		l = append(l, random(r, 1+r.Intn(9), 1+r.Intn(9)))
	}
	return l
}

// P2.5: Border.

func TestBorderOfBrick(t *testing.T) {
	l := ok[[]point](t)(stone.Border(brick()))
	want(t, "number of points", len(l), 560)
	want(t, "the first ones", l[:2], []point{{0, 0}, {1, 0}})
	want(t, "around a corner", l[199:202], []point{{199, 0}, {200, 0}, {200, 1}})
	want(t, "the last one", l[559], point{0, 1})
}

func TestBorder(t *testing.T) {
	wantPoints(t, "a triangle", ok[[]point](t)(stone.Border(shaped("s", point{0, 0}, point{4, 2}, point{0, 3}))), []point{{0, 0}, {2, 1}, {4, 2}, {0, 3}, {0, 2}, {0, 1}})
	wantPoints(t, "corners alone", ok[[]point](t)(stone.Border(shaped("s", point{1, 0}, point{3, 1}, point{0, 2}))), []point{{1, 0}, {3, 1}, {0, 2}})
	for _, s := range some(11) {
		if len(s.Shape) > 0 && s.Shape[1].X < 300 {
			wantKept(t, "Border", s, func() {
				wantPoints(t, fmt.Sprint(s), ok[[]point](t)(stone.Border(s)), borderOf(s))
			})
		}
	}
	want(t, "of the greatest box", len(ok[[]point](t)(stone.Border(box("m", 2000, 2000)))), 8000)
}

// P2.13: Pick.

func TestPick(t *testing.T) {
	for _, s := range append(small(12), some(12)...) {
		wide, high, _ := stone.Extent(s)
		if wide > 300 {
			continue
		}
		inside := 0
		for x := range wide + 1 {
			for z := range high + 1 {
				in := true
				for i, a := range s.Shape {
					in = in && turn(a, s.Shape[(i+1)%len(s.Shape)], point{x, z}) > 0
				}
				if in {
					inside++
				}
			}
		}
		border := ok[[]point](t)(stone.Border(s))
		want(t, fmt.Sprint(s), ok[int64](t)(stone.Twice(s)), int64(2*inside+len(border)-2))
	}
}

// P2.6: Split.

func TestSplitBrick(t *testing.T) {
	a, b, e := stone.Split(brick(), point{50, 0}, point{50, 80})
	wantErr(t, "Split", e, api.OK)
	want(t, "to the left", a, box("bricka", 50, 80))
	want(t, "to the right", b, box("brickb", 150, 80))
	a, b, e = stone.Split(brick(), point{50, 80}, point{50, 0})
	wantErr(t, "Split", e, api.OK)
	want(t, "to the left", a, box("bricka", 150, 80))
	want(t, "to the right", b, box("brickb", 50, 80))
}

func TestSplitFromCornerToCorner(t *testing.T) {
	s := box("s", 4, 2)
	a, b, e := stone.Split(s, point{0, 0}, point{4, 2})
	wantErr(t, "Split", e, api.OK)
	wantPoints(t, "to the left", a.Shape, []point{{0, 0}, {4, 2}, {0, 2}})
	wantPoints(t, "to the right", b.Shape, []point{{0, 0}, {4, 0}, {4, 2}})
}

func TestSplitKeepsTheRest(t *testing.T) {
	s := stone.Stone{Name: "k9", Shape: box("", 6, 6).Shape, Depth: 11, Density: 13, Grain: point{-7, 5}}
	a, b, e := stone.Split(s, point{0, 3}, point{6, 4})
	wantErr(t, "Split", e, api.OK)
	want(t, "to the left", a, stone.Stone{Name: "k9a", Shape: []point{{0, 0}, {6, 1}, {6, 3}, {0, 3}}, Depth: 11, Density: 13, Grain: point{-7, 5}})
	want(t, "to the right", b, stone.Stone{Name: "k9b", Shape: []point{{0, 0}, {6, 0}, {6, 4}, {0, 3}}, Depth: 11, Density: 13, Grain: point{-7, 5}})
}

// P2.12 as well: weights and centres of the pieces add up.
func TestSplitAllPairs(t *testing.T) {
	for _, s := range small(13) {
		points := borderOf(s)
		for _, p := range points {
			for _, q := range points {
				splitPair(t, s, p, q)
			}
		}
	}
}

func splitPair(t *testing.T, s stone.Stone, p, q point) {
	t.Helper()
	what := fmt.Sprint(s, " from ", p, " to ", q)
	before := copied(s)
	a, b, e := stone.Split(s, p, q)
	want(t, "the argument", s, before)
	left, right := side(s, p, q, 1), side(s, p, q, -1)
	switch {
	case !canCut(s, p, q):
		wantErr(t, what, e, api.ErrArg)
	case len(left) > api.MaxShape || len(right) > api.MaxShape:
		wantErr(t, what, e, api.ErrLimit)
	default:
		wantErr(t, what, e, api.OK)
		want(t, what, a, piece(s, "a", left))
		want(t, what, b, piece(s, "b", right))
		wantHalves(t, what, s, a, b, left, right)
		return
	}
	want(t, what, []stone.Stone{a, b}, make([]stone.Stone, 2))
}

// wantHalves moves the moments of the pieces back to where they were.
func wantHalves(t *testing.T, what string, s, a, b stone.Stone, left, right []point) {
	t.Helper()
	wantErr(t, what, stone.Check(a), api.OK)
	wantErr(t, what, stone.Check(b), api.OK)
	weight := ok[int64](t)
	want(t, what+": weight", weight(stone.Weight(a))+weight(stone.Weight(b)), weight(stone.Weight(s)))
	ax, az, aby, _ := stone.Centre(a)
	bx, bz, bby, _ := stone.Centre(b)
	x, z, _, _ := stone.Centre(s)
	l, r := corner(left), corner(right)
	want(t, what+": mx", ax+bx+aby*int64(l.X)+bby*int64(r.X), x)
	want(t, what+": mz", az+bz+aby*int64(l.Z)+bby*int64(r.Z), z)
}

// corner returns the lower left corner of the box around the points.
func corner(l []point) point {
	c := l[0]
	for _, p := range l {
		c = point{min(c.X, p.X), min(c.Z, p.Z)}
	}
	return c
}

func TestSplitGreatStones(t *testing.T) {
	r := rand.New(rand.NewSource(14))
	for range 20 {
		s := random(r, api.MaxSide, api.MaxSide)
		for range 20 {
			points := ok[[]point](t)(stone.Border(s))
			splitPair(t, s, points[r.Intn(len(points))], points[r.Intn(len(points))])
		}
		for _, p := range s.Shape {
			for _, q := range s.Shape {
				splitPair(t, s, p, q)
			}
		}
	}
}

func TestSplitErrors(t *testing.T) {
	long := box("1234567890123456", 4, 4)
	cases := []struct {
		s    stone.Stone
		p, q point
		e    api.Errno
	}{
		{box("s", 4, 4), point{1, 1}, point{0, 0}, api.ErrNone},
		{box("s", 4, 4), point{0, 0}, point{1, 1}, api.ErrNone},
		{box("s", 4, 4), point{-1, 0}, point{2, 4}, api.ErrNone},
		{box("s", 4, 4), point{5, 0}, point{2, 4}, api.ErrNone},
		{box("s", 4, 4), point{2, 4}, point{0, 5}, api.ErrNone},
		{shaped("s", point{0, 0}, point{3, 1}, point{0, 4}), point{1, 1}, point{3, 1}, api.ErrNone},
		{long, point{1, 1}, point{1, 0}, api.ErrNone},
		{box("s", 4, 4), point{1, 0}, point{1, 0}, api.ErrArg},
		{box("s", 4, 4), point{0, 0}, point{0, 0}, api.ErrArg},
		{box("s", 4, 4), point{0, 0}, point{4, 0}, api.ErrArg},
		{box("s", 4, 4), point{0, 0}, point{0, 4}, api.ErrArg},
		{box("s", 4, 4), point{1, 0}, point{3, 0}, api.ErrArg},
		{box("s", 4, 4), point{4, 0}, point{4, 3}, api.ErrArg},
		{long, point{1, 0}, point{3, 0}, api.ErrArg},
		{long, point{1, 0}, point{3, 4}, api.ErrLimit},
		{box("123456789012345", 4, 4), point{1, 0}, point{3, 4}, api.OK},
		{big(), point{8, 0}, point{14, 1}, api.ErrLimit},
		{big(), point{14, 1}, point{8, 0}, api.ErrLimit},
		{big(), point{12, 0}, point{17, 4}, api.OK},
		{big(), point{6, 0}, point{16, 2}, api.OK},
	}
	for _, n := range far {
		for _, p := range []point{{n, 0}, {0, n}, {n, n}, {n + 1, 0}, {2, n - 1}} {
			cases = append(cases, struct {
				s    stone.Stone
				p, q point
				e    api.Errno
			}{shaped("s", point{0, 0}, point{3, 1}, point{0, 4}), p, point{0, 0}, api.ErrNone})
		}
	}
	for _, c := range cases {
		what := fmt.Sprint(c.s, " from ", c.p, " to ", c.q)
		a, b, e := stone.Split(c.s, c.p, c.q)
		wantErr(t, what, e, c.e)
		if c.e != api.OK {
			want(t, what, []stone.Stone{a, b}, make([]stone.Stone, 2))
		}
	}
}

// P2.7: Outcomes, Sure.

func TestBlowOnBrick(t *testing.T) {
	wantPoints(t, "along the grain", ok[[]point](t)(stone.Outcomes(brick(), point{0, 40}, 0)), []point{{200, 40}})
	want(t, "Sure", ok[int64](t)(stone.Sure(brick(), point{0, 40}, 0)), 16000)
	wantPoints(t, "a little off", ok[[]point](t)(stone.Outcomes(brick(), point{0, 40}, 1)), []point{{200, 38}, {200, 39}, {200, 40}, {200, 41}, {200, 42}})
	want(t, "Sure", ok[int64](t)(stone.Sure(brick(), point{0, 40}, 1)), 16000)
	want(t, "Sure, above the middle", ok[int64](t)(stone.Sure(brick(), point{0, 50}, 0)), 20000)
}

func TestOutcomesBeginBehindTheBlow(t *testing.T) {
	s := box("s", 2, 2)
	s.Grain = point{1, 1}
	wantPoints(t, "from below", ok[[]point](t)(stone.Outcomes(s, point{1, 0}, 100)), []point{{2, 1}, {2, 2}, {1, 2}})
	wantPoints(t, "from above", ok[[]point](t)(stone.Outcomes(s, point{1, 2}, 100)), []point{{0, 1}, {0, 0}, {1, 0}})
	wantPoints(t, "from the first corner", ok[[]point](t)(stone.Outcomes(s, point{0, 0}, 100)), []point{{2, 1}, {2, 2}, {1, 2}})
	wantPoints(t, "from the last point", ok[[]point](t)(stone.Outcomes(s, point{0, 1}, 100)), []point{{2, 1}, {2, 2}, {1, 2}})
}

func outcomesOf(s stone.Stone, p point, tolerance int) []point {
	l := borderOf(s)
	i := slices.Index(l, p)
	var r []point
	for _, q := range append(slices.Clone(l[i+1:]), l[:i]...) {
		u, v := q.X-p.X, q.Z-p.Z
		across, along := u*s.Grain.Z-v*s.Grain.X, u*s.Grain.X+v*s.Grain.Z
		if canCut(s, p, q) && 100*max(across, -across) <= tolerance*max(along, -along) {
			r = append(r, q)
		}
	}
	return r
}

// P2.14 as well: outcomes can be cut, are more with a greater tolerance, are
// parallel to the grain without one, and leave a piece of at least Sure.
func TestBlows(t *testing.T) {
	for _, s := range small(15) {
		for _, p := range borderOf(s) {
			var lesser []point
			for _, tolerance := range []int{0, 1, 10, 35, 50, 99, 100} {
				what := fmt.Sprint(s, " at ", p, " with ", tolerance)
				got := ok[[]point](t)(stone.Outcomes(s, p, tolerance))
				wantPoints(t, what, got, outcomesOf(s, p, tolerance))
				for _, q := range lesser {
					want(t, what, slices.Contains(got, q), true)
				}
				lesser = got
				blow(t, what, s, p, tolerance, got)
			}
		}
	}
}

func blow(t *testing.T, what string, s stone.Stone, p point, tolerance int, outcomes []point) {
	t.Helper()
	sure, e := stone.Sure(s, p, tolerance)
	if len(outcomes) == 0 {
		want(t, what, []any{sure, e}, []any{int64(0), api.ErrNone})
		return
	}
	wantErr(t, what, e, api.OK)
	var all []int64
	for _, q := range outcomes {
		if tolerance == 0 {
			want(t, what+": parallel", turn(p, q, point{p.X + s.Grain.X, p.Z + s.Grain.Z}), 0)
		}
		if _, _, e := stone.Split(s, p, q); e != api.OK && e != api.ErrLimit {
			t.Errorf("%s: %v cannot be cut: %v", what, q, e)
		}
		all = append(all, max(twiceOf(side(s, p, q, 1)), twiceOf(side(s, p, q, -1))))
	}
	want(t, what, sure, slices.Min(all))
}

// A stone whose pieces could not be named, or would have too many corners, has outcomes all the same.
func TestBlowsWhoseCutIsNoSplit(t *testing.T) {
	s := box("1234567890123456", 4, 4)
	wantPoints(t, "a long name", ok[[]point](t)(stone.Outcomes(s, point{0, 2}, 0)), []point{{4, 2}})
	want(t, "a long name", ok[int64](t)(stone.Sure(s, point{0, 2}, 0)), 16)
	s = big()
	s.Grain = point{6, 1}
	wantPoints(t, "many corners", ok[[]point](t)(stone.Outcomes(s, point{8, 0}, 0)), []point{{14, 1}})
	want(t, "many corners", ok[int64](t)(stone.Sure(s, point{8, 0}, 0)), ok[int64](t)(stone.Twice(s))-4)
}

func TestBlowErrors(t *testing.T) {
	for _, c := range []struct {
		p          point
		tolerance  int
		e, outcome api.Errno
	}{
		{point{1, 1}, 0, api.ErrNone, api.ErrNone},
		{point{1, 1}, 101, api.ErrNone, api.ErrNone},
		{point{-1, 0}, -1, api.ErrNone, api.ErrNone},
		{point{0, far[0]}, 0, api.ErrNone, api.ErrNone},
		{point{far[1], far[0]}, 0, api.ErrNone, api.ErrNone},
		{point{0, 1}, -1, api.ErrRange, api.ErrRange},
		{point{0, 1}, 101, api.ErrRange, api.ErrRange},
		{point{0, 0}, far[0], api.ErrRange, api.ErrRange},
		{point{0, 0}, far[1], api.ErrRange, api.ErrRange},
		{point{0, 0}, 0, api.OK, api.ErrNone},
		{point{2, 0}, 0, api.OK, api.ErrNone},
		{point{2, 0}, 100, api.OK, api.OK},
	} {
		what := fmt.Sprint(c.p, c.tolerance)
		l, e := stone.Outcomes(box("s", 4, 4), c.p, c.tolerance)
		wantErr(t, what, e, c.e)
		if c.outcome != api.OK {
			want(t, what, len(l), 0)
		}
		n, e := stone.Sure(box("s", 4, 4), c.p, c.tolerance)
		wantErr(t, what, e, c.outcome)
		if c.outcome != api.OK {
			want(t, what, n, 0)
		}
	}
}

// P2.8: Chip.

func TestChipBrick(t *testing.T) {
	rest, chip, e := stone.Chip(brick(), 1, 10, 20)
	wantErr(t, "Chip", e, api.OK)
	wantPoints(t, "chip", chip.Shape, []point{{0, 0}, {10, 0}, {10, 20}})
	want(t, "its name", chip.Name, "brickb")
	wantPoints(t, "rest", rest.Shape, []point{{0, 0}, {190, 0}, {200, 20}, {200, 80}, {0, 80}})
	want(t, "its name", rest.Name, "bricka")
}

func TestChipFirstAndLastCorner(t *testing.T) {
	rest, chip, e := stone.Chip(box("s", 6, 4), 0, 1, 3)
	wantErr(t, "Chip", e, api.OK)
	wantPoints(t, "chip", chip.Shape, []point{{0, 0}, {3, 0}, {0, 1}})
	wantPoints(t, "rest", rest.Shape, []point{{3, 0}, {6, 0}, {6, 4}, {0, 4}, {0, 1}})
	rest, chip, e = stone.Chip(box("s", 6, 4), 3, 6, 4)
	wantErr(t, "Chip", e, api.OK)
	wantPoints(t, "chip", chip.Shape, []point{{0, 0}, {6, 4}, {0, 4}})
	wantPoints(t, "rest", rest.Shape, []point{{0, 0}, {6, 0}, {6, 4}})
}

func TestChips(t *testing.T) {
	for _, s := range small(16) {
		points := borderOf(s)
		n := len(points)
		for corner, c := range s.Shape {
			at := slices.Index(points, c)
			before := s.Shape[(corner+len(s.Shape)-1)%len(s.Shape)]
			behind := s.Shape[(corner+1)%len(s.Shape)]
			most := (at - slices.Index(points, before) + n) % n
			far := (slices.Index(points, behind) - at + n) % n
			for back := 0; back <= most+1; back++ {
				for on := 0; on <= far+1; on++ {
					what := fmt.Sprint(s, corner, back, on)
					rest, chip, e := stone.Chip(s, corner, back, on)
					if back < 1 || back > most || on < 1 || on > far {
						want(t, what, []any{rest, chip, e}, []any{stone.Stone{}, stone.Stone{}, api.ErrRange})
						continue
					}
					a, b, f := stone.Split(s, points[(at-back+n)%n], points[(at+on)%n])
					want(t, what, []any{rest, chip, e}, []any{a, b, f})
				}
			}
		}
	}
}

func TestChipErrors(t *testing.T) {
	type call struct {
		s                stone.Stone
		corner, back, on int
		e                api.Errno
	}
	triangle := shaped("s", point{0, 0}, point{4, 0}, point{0, 4})
	long := box("1234567890123456", 4, 4)
	cases := []call{
		{triangle, -1, 1, 1, api.ErrRange},
		{triangle, 3, 1, 1, api.ErrRange},
		{triangle, 0, 0, 1, api.ErrRange},
		{triangle, 0, 1, 0, api.ErrRange},
		{triangle, 0, 5, 1, api.ErrRange},
		{triangle, 0, 1, 5, api.ErrRange},
		{triangle, 0, 4, 4, api.ErrArg},
		{triangle, 2, 4, 4, api.ErrArg},
		{triangle, 2, 4, 3, api.OK},
		{triangle, 2, 3, 4, api.OK},
		{long, 4, 1, 1, api.ErrRange},
		{long, 0, 0, 1, api.ErrRange},
		{long, 0, 1, 1, api.ErrLimit},
		{big(), 0, 1, 1, api.ErrLimit},
		{big(), 0, 2, 1, api.OK},
	}
	for _, n := range far {
		cases = append(cases, call{triangle, n, 1, 1, api.ErrRange}, call{triangle, 0, n, 1, api.ErrRange}, call{triangle, 0, 1, n, api.ErrRange})
	}
	for _, c := range cases {
		what := fmt.Sprint(c.s, c.corner, c.back, c.on)
		rest, chip, e := stone.Chip(c.s, c.corner, c.back, c.on)
		wantErr(t, what, e, c.e)
		if c.e != api.OK {
			want(t, what, []stone.Stone{rest, chip}, make([]stone.Stone, 2))
		}
	}
}
