package stone_test

import (
	"fmt"
	"math"
	"math/rand"
	"reflect"
	"slices"
	"testing"

	"copestone/api"
	"copestone/stone"
)

// The tests hold the package against slow ways that follow the words of the
// chapter: hulls by looking at all points, border points by looking at all
// places, pieces by asking of each corner on which side of the cut it is.

type point = stone.Point

var far = []int{math.MaxInt, math.MinInt, math.MaxInt32, math.MinInt32, 1 << 40, -1 << 40}

func box(name string, wide, high int) stone.Stone {
	return stone.Stone{
		Name:  name,
		Shape: []point{{0, 0}, {wide, 0}, {wide, high}, {0, high}},
		Depth: 100, Density: 2400, Grain: point{1, 0},
	}
}

func brick() stone.Stone { return box("brick", 200, 80) }

// twelve is a shape with as many corners as there may be.
func twelve() []point {
	return []point{{3, 0}, {6, 0}, {8, 1}, {9, 3}, {9, 6}, {8, 8}, {6, 9}, {3, 9}, {1, 8}, {0, 6}, {0, 3}, {1, 1}}
}

// big is twice twelve: its edges have border points between their corners.
func big() stone.Stone { return shaped("s", scaled(2)...) }

func scaled(by int) []point {
	l := twelve()
	for i, p := range l {
		l[i] = point{by * p.X, by * p.Z}
	}
	return l
}

func shaped(name string, l ...point) stone.Stone {
	return stone.Stone{Name: name, Shape: l, Depth: 7, Density: 3, Grain: point{2, -1}}
}

// turn is above 0 if c is to the left of the way from a to b.
func turn(a, b, c point) int { return (b.X-a.X)*(c.Z-a.Z) - (b.Z-a.Z)*(c.X-a.X) }

func between(n, a, b int) bool { return min(a, b) <= n && n <= max(a, b) }

func onEdge(p, a, b point) bool {
	return turn(a, b, p) == 0 && between(p.X, a.X, b.X) && between(p.Z, a.Z, b.Z)
}

// moved returns the list, moved and begun as a shape in its place is.
func moved(l []point) []point {
	if len(l) == 0 {
		return nil
	}
	left, low, start := l[0].X, l[0].Z, 0
	for i, p := range l {
		left, low = min(left, p.X), min(low, p.Z)
		if s := l[start]; p.Z < s.Z || p.Z == s.Z && p.X < s.X {
			start = i
		}
	}
	var r []point
	for i := range l {
		p := l[(start+i)%len(l)]
		r = append(r, point{p.X - left, p.Z - low})
	}
	return r
}

// wrapped returns the hull's corners, in the place of the points: from each of
// them on to the point that has all others to its left.
func wrapped(l []point) []point {
	if len(l) == 0 {
		return nil
	}
	at := l[0]
	for _, p := range l {
		if p.Z < at.Z || p.Z == at.Z && p.X < at.X {
			at = p
		}
	}
	var r []point
	for first := at; len(r) == 0 || at != first; {
		r = append(r, at)
		next := at
		for _, p := range l {
			t := turn(at, next, p)
			if next == at || t < 0 || t == 0 && longer(at, p, next) {
				next = p
			}
		}
		at = next
	}
	return r
}

func longer(at, p, q point) bool {
	return (p.X-at.X)*(p.X-at.X)+(p.Z-at.Z)*(p.Z-at.Z) > (q.X-at.X)*(q.X-at.X)+(q.Z-at.Z)*(q.Z-at.Z)
}

// random returns a valid stone with corners in a box of this size.
func random(r *rand.Rand, wide, high int) stone.Stone {
	for {
		var l []point
		for range 3 + r.Intn(9) {
			l = append(l, point{r.Intn(wide + 1), r.Intn(high + 1)})
		}
		shape := moved(wrapped(l))
		if len(shape) < 3 || len(shape) > api.MaxShape {
			continue
		}
		s := stone.Stone{Name: fmt.Sprint("s", r.Intn(1000)), Shape: shape, Depth: 1 + r.Intn(api.MaxSide), Density: 1 + r.Intn(api.MaxDensity)}
		for s.Grain == (point{}) {
			s.Grain = point{r.Intn(201) - 100, r.Intn(201) - 100}
			if r.Intn(3) == 0 {
				s.Grain = point{r.Intn(5) - 2, r.Intn(5) - 2}
			}
		}
		return s
	}
}

// some returns random stones, most of them small, and a few that are named.
func some(seed int64) []stone.Stone {
	r := rand.New(rand.NewSource(seed))
	l := []stone.Stone{
		brick(), shaped("s", twelve()...), shaped("t", point{0, 0}, point{1, 0}, point{0, 1}),
		shaped("d", point{3, 0}, point{6, 4}, point{3, 8}, point{0, 4}), box("m", api.MaxSide, api.MaxSide),
	}
	for range 60 {
		l = append(l, random(r, 1+r.Intn(12), 1+r.Intn(12)))
	}
	for range 10 {
		l = append(l, random(r, 100, 60))
	}
	return append(l, random(r, api.MaxSide, api.MaxSide))
}

// broken returns stones that are not valid, by what is wrong with them.
func broken() map[string]stone.Stone {
	l := map[string]stone.Stone{}
	add := func(what string, change func(s *stone.Stone)) {
		s := brick()
		change(&s)
		l[what] = s
	}
	for _, name := range []string{"", "Brick", "br ick", "brick\n", "br-ick", "steiñ", "a`", "a{", "a/", "a:", "12345678901234567"} {
		add(fmt.Sprintf("name %q", name), func(s *stone.Stone) { s.Name = name })
	}
	for _, n := range append([]int{0, -1, 2001}, far...) {
		add(fmt.Sprint("depth ", n), func(s *stone.Stone) { s.Depth = n })
	}
	for _, n := range append([]int{0, -1, 10001}, far...) {
		add(fmt.Sprint("density ", n), func(s *stone.Stone) { s.Density = n })
	}
	for _, n := range append([]int{101, -101}, far...) {
		add(fmt.Sprint("grain ", n, " along"), func(s *stone.Stone) { s.Grain = point{n, 1} })
		add(fmt.Sprint("grain ", n, " up"), func(s *stone.Stone) { s.Grain = point{1, n} })
	}
	add("no grain", func(s *stone.Stone) { s.Grain = point{} })
	for i, shape := range badShapes() {
		add(fmt.Sprint("shape ", i, shape), func(s *stone.Stone) { s.Shape = shape })
	}
	return l
}

func badShapes() [][]point {
	l := [][]point{
		nil,
		{},
		{{0, 0}},
		{{0, 0}, {1, 0}},
		{{0, 0}, {0, 0}, {0, 0}},
		{{0, 0}, {1, 0}, {2, 0}},
		{{0, 0}, {0, 1}, {1, 0}},                         // clockwise
		{{1, 0}, {0, 1}, {0, 0}},                         // begins elsewhere
		{{0, 1}, {0, 0}, {1, 0}},                         // begins elsewhere
		{{2, 0}, {2, 2}, {0, 2}, {0, 0}},                 // begins at the right of two lowest corners
		{{1, 0}, {2, 0}, {2, 1}, {1, 1}},                 // not at the left
		{{0, 1}, {2, 1}, {2, 2}},                         // not at the bottom
		{{-1, 0}, {2, 0}, {2, 2}},                        // too far to the left
		{{0, 0}, {2, -1}, {2, 2}},                        // too low
		{{0, 0}, {1, 0}, {2, 0}, {2, 2}},                 // three in line
		{{0, 0}, {2, 0}, {2, 1}, {2, 2}},                 // three in line
		{{0, 0}, {2, 0}, {2, 2}, {1, 1}},                 // three in line
		{{0, 0}, {2, 0}, {2, 2}, {0, 2}, {0, 1}},         // three in line, at the end
		{{0, 0}, {2, 0}, {2, 0}, {2, 2}},                 // a corner twice
		{{0, 0}, {2, 0}, {2, 2}, {0, 0}},                 // the first one twice
		{{0, 0}, {4, 0}, {1, 1}, {0, 4}},                 // bent inward
		{{0, 0}, {4, 0}, {4, 4}, {2, 3}, {0, 4}},         // bent inward
		{{0, 0}, {4, 4}, {4, 0}, {0, 4}},                 // crossing itself
		{{1, 0}, {4, 4}, {0, 2}, {5, 2}, {0, 4}},         // crossing itself
		{{2, 0}, {8, 9}, {0, 6}, {10, 6}, {2, 9}},        // a star: left turns alone
		{{3, 0}, {5, 9}, {0, 3}, {9, 3}, {2, 9}},         // a star
		{{0, 0}, {3, 0}, {0, 3}, {0, 0}, {3, 0}, {0, 3}}, // twice around
		{{0, 0}, {2001, 0}, {0, 1}},
		{{0, 0}, {1, 0}, {0, 2001}},
		append(twelve(), point{2, 0}),
	}
	thirteen := []point{{3, 0}, {6, 0}, {8, 1}, {9, 2}, {10, 4}, {10, 7}, {8, 9}, {6, 10}, {3, 10}, {1, 9}, {0, 7}, {0, 4}, {1, 1}}
	l = append(l, thirteen)
	for _, n := range far {
		l = append(l, []point{{0, 0}, {n, 0}, {0, 1}}, []point{{0, 0}, {1, 0}, {0, n}}, []point{{n, n}, {1, 0}, {0, 1}})
	}
	return l
}

func wantErr(t *testing.T, what string, got, want api.Errno) {
	t.Helper()
	if got != want {
		t.Errorf("%s: %v, want %v", what, got, want)
	}
}

func want[A any](t *testing.T, what string, got, want A) {
	t.Helper()
	if !reflect.DeepEqual(got, want) {
		t.Errorf("%s: %v, want %v", what, got, want)
	}
}

// wantPoints takes nil and an empty list as the same.
func wantPoints(t *testing.T, what string, got, want []point) {
	t.Helper()
	if !slices.Equal(got, want) {
		t.Errorf("%s: %v, want %v", what, got, want)
	}
}

func ok[A any](t *testing.T) func(a A, e api.Errno) A {
	return func(a A, e api.Errno) A {
		t.Helper()
		if e != api.OK {
			t.Errorf("%v, want OK", e)
		}
		return a
	}
}

func copied(s stone.Stone) stone.Stone {
	s.Shape = slices.Clone(s.Shape)
	return s
}

// wantKept fails if a call has changed a stone.
func wantKept(t *testing.T, what string, s stone.Stone, call func()) {
	t.Helper()
	before := copied(s)
	call()
	if !reflect.DeepEqual(s, before) {
		t.Errorf("%s has changed its argument %v to %v", what, before, s)
	}
}
