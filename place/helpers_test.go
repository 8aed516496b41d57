package place_test

import (
	"fmt"
	"math"
	"math/big"
	"math/rand"
	"reflect"
	"slices"
	"testing"

	"copestone/api"
	"copestone/place"
	"copestone/stone"
	"copestone/whole"
)

// The tests hold the package against slow ways that follow the words of the
// chapter, with numbers of math/big: heights by looking at all edges, relations
// by cutting one polygon by all edges of the other, beds and common points by
// looking at all places where lines bend or cross.

type (
	point  = stone.Point
	placed = place.Placed
	wall   = place.Wall
	rat    = *big.Rat
)

var far = []int{math.MaxInt, math.MinInt, math.MaxInt32, math.MinInt32, 1 << 40, -1 << 40}

func at(x, z int) point { return point{X: x, Z: z} }

// path returns the points whose X and Z these are, in turn.
func path(numbers ...int) []point {
	var l []point
	for i := 0; i < len(numbers); i += 2 {
		l = append(l, at(numbers[i], numbers[i+1]))
	}
	return l
}

// shaped returns a valid stone with this shape, which is in its place.
func shaped(name string, l ...point) stone.Stone {
	return stone.Stone{Name: name, Shape: l, Depth: 100, Density: 2400, Grain: point{X: 1}}
}

func box(name string, wide, high int) stone.Stone {
	return shaped(name, at(0, 0), at(wide, 0), at(wide, high), at(0, high))
}

func put(s stone.Stone, way, x, z int, skin uint8) placed {
	return placed{Stone: s, Way: way, At: at(x, z), Skin: skin}
}

// brick is a brick at the front.
func brick(name string, x, z int) placed { return put(box(name, 200, 80), 0, x, z, place.Front) }

// diamond is a stone on its tip, 2 wide and 2 high for a half of 1.
func diamond(name string, half, x, z int) placed {
	return put(shaped(name, at(half, 0), at(2*half, half), at(half, 2*half), at(0, half)), 0, x, z, place.Front)
}

func flat() []point { return path(-1000, 0, 1000, 0) }

func on(ground []point, l ...placed) wall { return wall{Ground: ground, Stones: l} }

// three are the bricks of the chapter's examples.
func three() wall {
	return on(flat(), brick("a", 0, 0), brick("b", 200, 0), brick("c", 100, 80))
}

// random returns a stone that is the hull of random points in a box.
func random(r *rand.Rand, name string, wide, high int) stone.Stone {
	for {
		var l []point
		for range 3 + r.Intn(9) {
			l = append(l, at(r.Intn(wide+1), r.Intn(high+1)))
		}
		if shape, e := stone.Hull(l); e == api.OK {
			return shaped(name, shape...)
		}
	}
}

func randomPlaced(r *rand.Rand, name string, size int) placed {
	return put(random(r, name, 1+r.Intn(size), 1+r.Intn(size)), r.Intn(8), r.Intn(2*size)-size, r.Intn(2*size)-size, uint8(1+r.Intn(3)))
}

// randomGround goes from -size to 3 size.
func randomGround(r *rand.Rand, size int) []point {
	l := path(-size, r.Intn(size))
	for x := -size + 1; x < 3*size && len(l) < api.MaxGround-1; x++ {
		if r.Intn(2) == 0 {
			l = append(l, at(x, r.Intn(3)))
		}
	}
	return append(l, at(3*size, r.Intn(size)))
}

// randomWall drops stones on a ground, each of which begins high above it.
func randomWall(t *testing.T, r *rand.Rand, size, count int) wall {
	t.Helper()
	w := on(randomGround(r, size))
	for i := range count {
		p := put(random(r, fmt.Sprint("s", i), 1+r.Intn(size), 1+r.Intn(size)), r.Intn(8), 0, 2*size*(count+1), uint8(1+r.Intn(3)))
		wide := spread(p)
		p.At.X = -size + r.Intn(4*size-wide+1)
		p.At.Z -= ok[int](t)(place.Drop(w, p))
		w.Stones = append(w.Stones, p)
	}
	return w
}

// many returns bricks that lie beside each other, with different names.
func many(count int) []placed {
	var l []placed
	for i := range count {
		l = append(l, brick(fmt.Sprint("m", i), 200*i, 0))
	}
	return l
}

// broken returns laid stones that are not valid, by what is wrong with them.
func broken() map[string]placed {
	l := map[string]placed{}
	add := func(what string, change func(p *placed)) {
		p := brick("k", 0, 0)
		change(&p)
		l[what] = p
	}
	add("nothing", func(p *placed) { *p = placed{} })
	add("a name", func(p *placed) { p.Stone.Name = "K" })
	add("no shape", func(p *placed) { p.Stone.Shape = nil })
	add("a line", func(p *placed) { p.Stone.Shape = path(0, 0, 5, 0) })
	add("clockwise", func(p *placed) { slices.Reverse(p.Stone.Shape) })
	add("a depth", func(p *placed) { p.Stone.Depth = 0 })
	add("a density", func(p *placed) { p.Stone.Density = api.MaxDensity + 1 })
	add("a grain", func(p *placed) { p.Stone.Grain = point{} })
	for _, n := range append([]int{-1, 8}, far...) {
		add(fmt.Sprint("the way ", n), func(p *placed) { p.Way = n })
	}
	for _, n := range append([]int{api.MaxFar + 1, -api.MaxFar - 1}, far...) {
		add(fmt.Sprint("X ", n), func(p *placed) { p.At.X = n })
		add(fmt.Sprint("Z ", n), func(p *placed) { p.At.Z = n })
	}
	for _, n := range []uint8{0, 4, 255} {
		add(fmt.Sprint("the skin ", n), func(p *placed) { p.Skin = n })
	}
	return l
}

// Numbers.

func q(n, d int) rat { return big.NewRat(int64(n), int64(d)) }

func number(n int) rat { return q(n, 1) }

func add(a, b rat) rat { return new(big.Rat).Add(a, b) }

func sub(a, b rat) rat { return new(big.Rat).Sub(a, b) }

func mul(a, b rat) rat { return new(big.Rat).Mul(a, b) }

func quo(a, b rat) rat { return new(big.Rat).Quo(a, b) }

func lesser(a, b rat) rat {
	if b.Cmp(a) < 0 {
		return b
	}
	return a
}

func greater(a, b rat) rat {
	if b.Cmp(a) > 0 {
		return b
	}
	return a
}

// toRat and toR share only the texts of numbers with package whole.
func toRat(a whole.R) rat {
	r, _ := new(big.Rat).SetString(a.Text())
	return r
}

func toR(a rat) whole.R {
	r, _ := whole.Parse(a.RatString())
	return r
}

func ints(l ...int) []whole.R {
	var r []whole.R
	for _, n := range l {
		r = append(r, whole.Of(int64(n)))
	}
	return r
}

// unordered sorts, and takes equal ones together.
func unordered(l []rat) []rat {
	slices.SortFunc(l, rat.Cmp)
	return slices.CompactFunc(l, func(a, b rat) bool { return a.Cmp(b) == 0 })
}

// Slow ways.

func cornersOf(p placed) []point {
	s, _ := stone.Turned(p.Stone, p.Way)
	var l []point
	for _, c := range s.Shape {
		l = append(l, at(p.At.X+c.X, p.At.Z+c.Z))
	}
	return l
}

// rangeOf returns the least and the greatest X.
func rangeOf(l []point) (from, to int) {
	from, to = l[0].X, l[0].X
	for _, c := range l {
		from, to = min(from, c.X), max(to, c.X)
	}
	return from, to
}

func spread(p placed) int {
	from, to := rangeOf(cornersOf(p))
	return to - from
}

func isBetween(from, to int, x rat) bool {
	return number(from).Cmp(x) <= 0 && x.Cmp(number(to)) <= 0
}

// edgesOf are those of a polygon, or of the ground if it is open.
func edgesOf(l []point, open bool) [][2]point {
	var r [][2]point
	for i, a := range l {
		if i+1 < len(l) {
			r = append(r, [2]point{a, l[i+1]})
		} else if !open {
			r = append(r, [2]point{a, l[0]})
		}
	}
	return r
}

// heightsAt returns the least and the greatest Z on edges at x; nil, if there
// are none.
func heightsAt(edges [][2]point, x rat) (low, up rat) {
	see := func(z rat) {
		if low == nil {
			low, up = z, z
		}
		low, up = lesser(low, z), greater(up, z)
	}
	for _, e := range edges {
		a, b := e[0], e[1]
		if !isBetween(min(a.X, b.X), max(a.X, b.X), x) {
			continue
		}
		if a.X == b.X {
			see(number(a.Z))
			see(number(b.Z))
			continue
		}
		share := quo(sub(x, number(a.X)), number(b.X-a.X))
		see(add(number(a.Z), mul(share, number(b.Z-a.Z))))
	}
	return low, up
}

// body is a laid stone, or the ground, as the slow ways see it.
type body struct {
	corners  []point
	edges    [][2]point
	from, to int
	skin     uint8
}

func bodyOf(p placed) body {
	l := cornersOf(p)
	from, to := rangeOf(l)
	return body{l, edgesOf(l, false), from, to, p.Skin}
}

func groundOf(l []point) body {
	return body{l, edgesOf(l, true), l[0].X, l[len(l)-1].X, place.Through}
}

func (a body) low(x rat) rat {
	low, _ := heightsAt(a.edges, x)
	return low
}

func (a body) up(x rat) rat {
	_, up := heightsAt(a.edges, x)
	return up
}

func (a body) meets(b body) bool {
	return a.skin == b.skin || a.skin == place.Through || b.skin == place.Through
}

func (a body) isIn(skin uint8) bool { return a.skin == skin || a.skin == place.Through }

func (a body) gapOver(b body, x rat) rat { return sub(a.low(x), b.up(x)) }

// common returns the common range.
func common(a, b body) (from, to int, found bool) {
	from, to = max(a.from, b.from), min(a.to, b.to)
	return from, to, from < to
}

// bends are the X of all corners of both in their common range, and its ends.
func bends(a, b body) []rat {
	from, to, found := common(a, b)
	if !found {
		return nil
	}
	l := []rat{number(from), number(to)}
	for _, c := range slices.Concat(a.corners, b.corners) {
		if from <= c.X && c.X <= to {
			l = append(l, number(c.X))
		}
	}
	return unordered(l)
}

// leastGap of a over b, and the least x at which it is so; nil without a common
// range.
func leastGap(a, b body) (least, at rat) {
	for _, x := range bends(a, b) {
		if g := a.gapOver(b, x); least == nil || g.Cmp(least) < 0 {
			least, at = g, x
		}
	}
	return least, at
}

type pair [2]rat

func cross(a, b, c pair) rat {
	return sub(mul(sub(b[0], a[0]), sub(c[1], a[1])), mul(sub(b[1], a[1]), sub(c[0], a[0])))
}

// cut returns the part of a polygon to the left of the line from a to b.
func cut(l []pair, a, b pair) []pair {
	var r []pair
	for i, p := range l {
		next := l[(i+1)%len(l)]
		s, t := cross(a, b, p), cross(a, b, next)
		if s.Sign() >= 0 {
			r = append(r, p)
		}
		if s.Sign()*t.Sign() < 0 {
			share := quo(s, sub(s, t))
			r = append(r, pair{add(p[0], mul(share, sub(next[0], p[0]))), add(p[1], mul(share, sub(next[1], p[1])))})
		}
	}
	return r
}

func pairs(l []point) []pair {
	var r []pair
	for _, c := range l {
		r = append(r, pair{number(c.X), number(c.Z)})
	}
	return r
}

// sharedArea is that of two convex polygons.
func sharedArea(a, b []point) rat {
	l := pairs(a)
	edges := pairs(b)
	for i, e := range edges {
		l = cut(l, e, edges[(i+1)%len(edges)])
	}
	sum := new(big.Rat)
	for i := range l {
		n := l[(i+1)%len(l)]
		sum = add(sum, sub(mul(l[i][0], n[1]), mul(n[0], l[i][1])))
	}
	return quo(sum, number(2))
}

// relationOf asks whether there is an area in common, and if not, who is above
// in the middle of the common range.
func relationOf(a, b body) uint8 {
	switch {
	case a.to <= b.from:
		return place.Left
	case a.from >= b.to:
		return place.Right
	case sharedArea(a.corners, b.corners).Sign() > 0:
		return place.Into
	}
	from, to, _ := common(a, b)
	if x := q(from+to, 2); a.gapOver(b, x).Sign() >= 0 {
		return place.Above
	}
	return place.Below
}

// bedOf looks at all bends, and at all x between them at which the gap is pin.
func bedOf(a, b body, pin int) (from, to rat, found bool) {
	least, _ := leastGap(a, b)
	if least == nil || least.Sign() < 0 || least.Cmp(number(pin)) > 0 {
		return nil, nil, false
	}
	var l []rat
	places := bends(a, b)
	for i, x := range places {
		g := sub(a.gapOver(b, x), number(pin))
		if g.Sign() <= 0 {
			l = append(l, x)
		}
		if i == 0 {
			continue
		}
		if h := sub(a.gapOver(b, places[i-1]), number(pin)); g.Sign()*h.Sign() < 0 {
			l = append(l, add(x, mul(sub(places[i-1], x), quo(g, sub(g, h)))))
		}
	}
	l = unordered(l)
	return l[0], l[len(l)-1], true
}

// directionAt follows the words of the chapter; to is the right end of the bed.
func directionAt(b body, x, to rat) point {
	var left, right point
	for _, e := range b.edges {
		from, end := e[0], e[1]
		if from.X > end.X {
			from, end = end, from
		}
		if from.X == end.X || !isBetween(from.X, end.X, x) || !isTop(b, e) {
			continue
		}
		d := int(new(big.Int).GCD(nil, nil, big.NewInt(int64(end.X-from.X)), big.NewInt(int64(max(end.Z-from.Z, from.Z-end.Z)))).Int64())
		step := at((end.X-from.X)/d, (end.Z-from.Z)/d)
		if number(end.X).Cmp(x) == 0 {
			left = step
		} else if number(from.X).Cmp(x) == 0 {
			right = step
		} else {
			return step
		}
	}
	if left == (point{}) || right != (point{}) && x.Cmp(to) < 0 {
		return right
	}
	return left
}

func isTop(b body, e [2]point) bool {
	x := q(e[0].X+e[1].X, 2)
	return b.up(x).Cmp(mul(q(1, 2), number(e[0].Z+e[1].Z))) == 0
}

// What is wanted.

func wantErr(t *testing.T, what string, got, want api.Errno) {
	t.Helper()
	if got != want {
		t.Errorf("%s: %v, want %v", what, got, want)
	}
}

func want[A any](t *testing.T, what string, got, want A) {
	t.Helper()
	if !reflect.DeepEqual(got, want) {
		t.Errorf("%s: %v, want %v", what, got, want)
	}
}

func wantR(t *testing.T, what string, got whole.R, want rat) {
	t.Helper()
	if got.Text() != want.RatString() {
		t.Errorf("%s: %s, want %s", what, got.Text(), want.RatString())
	}
}

func wantPair(t *testing.T, what string, got whole.V, want string) {
	t.Helper()
	if got.Text() != want {
		t.Errorf("%s: %s, want %s", what, got.Text(), want)
	}
}

func ok[A any](t *testing.T) func(a A, e api.Errno) A {
	return func(a A, e api.Errno) A {
		t.Helper()
		if e != api.OK {
			t.Errorf("%v, want OK", e)
		}
		return a
	}
}

func copied(w wall) wall {
	w.Ground, w.Stones = slices.Clone(w.Ground), slices.Clone(w.Stones)
	for i := range w.Stones {
		w.Stones[i].Stone.Shape = slices.Clone(w.Stones[i].Stone.Shape)
	}
	return w
}

// wantKept fails if a call has changed a wall.
func wantKept(t *testing.T, what string, w wall, call func()) {
	t.Helper()
	before := copied(w)
	call()
	if !reflect.DeepEqual(w, before) {
		t.Errorf("%s has changed its argument %v to %v", what, before, w)
	}
}
