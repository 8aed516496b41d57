package joint_test

import (
	"fmt"
	"math"
	"math/rand"
	"reflect"
	"slices"
	"testing"

	"copestone/api"
	"copestone/joint"
	"copestone/place"
	"copestone/stone"
)

// The tests hold the package against slow ways that follow the words of the
// chapter (slow_test.go); only the beds are those of package place.

type (
	point   = stone.Point
	placed  = place.Placed
	wall    = place.Wall
	rules   = joint.Rules
	joints  = []joint.Joint
	finding = joint.Finding
)

var far = []int{math.MaxInt, math.MinInt, math.MaxInt32, math.MinInt32, 1 << 40, -1 << 40}

func at(x, z int) point { return point{X: x, Z: z} }

// path returns the points whose X and Z these are, in turn.
func path(numbers ...int) []point {
	var l []point
	for i := 0; i < len(numbers); i += 2 {
		l = append(l, at(numbers[i], numbers[i+1]))
	}
	return l
}

func shaped(name string, l ...point) stone.Stone {
	return stone.Stone{Name: name, Shape: l, Depth: 100, Density: 2400, Grain: point{X: 1}}
}

func box(name string, wide, high int) stone.Stone {
	return shaped(name, at(0, 0), at(wide, 0), at(wide, high), at(0, high))
}

func put(s stone.Stone, x, z int, skin uint8) placed {
	return placed{Stone: s, At: at(x, z), Skin: skin}
}

// boxed is a box at the front.
func boxed(name string, x, z, wide, high int) placed {
	return put(box(name, wide, high), x, z, place.Front)
}

// brick is a brick at the front.
func brick(name string, x, z int) placed { return boxed(name, x, z, 200, 80) }

func in(skin uint8, p placed) placed {
	p.Skin = skin
	return p
}

func deep(depth int, p placed) placed {
	p.Stone.Depth = depth
	return p
}

func flat() []point { return path(-1000, 0, 1000, 0) }

func deepDown() []point { return path(-api.MaxFar, -api.MaxFar, api.MaxFar, -api.MaxFar) }

func on(ground []point, l ...placed) wall { return wall{Ground: ground, Stones: l} }

// five are the bricks of the chapter's examples.
func five() wall {
	return on(flat(), brick("a", 0, 0), brick("b", 200, 0), brick("c", 0, 80), brick("d", 200, 80), brick("e", 100, 160))
}

// front are the rules of the chapter's examples.
func front(changes ...func(r *rules)) rules {
	r := rules{Skin: place.Front, Wide: 20, Lap: 50, Step: 10, Run: 100, Level: 5}
	for _, change := range changes {
		change(&r)
	}
	return r
}

// pairAt returns two narrow stones with a joint between them.
func pairAt(name string, left, from, wide, high int) []placed {
	return []placed{
		boxed(name+"1", left-10, from, 10, high),
		boxed(name+"2", left+wide, from, 10, high),
	}
}

// inAir returns a wall far above its ground.
func inAir(pairs ...[]placed) wall { return on(deepDown(), slices.Concat(pairs...)...) }

// many returns bricks that lie beside each other, with different names.
func many(count int) []placed {
	var l []placed
	for i := range count {
		l = append(l, brick(fmt.Sprint("m", i), 200*i, 0))
	}
	return l
}

// badWalls returns walls that are not valid, by their errors.
func badWalls() map[api.Errno][]wall {
	a := brick("a", 0, 0)
	return map[api.Errno][]wall{
		api.ErrArg: {
			{}, on(path(0, 0), a), on(path(5, 0, 0, 0)), on(flat(), placed{}), on(flat(), brick("A", 0, 0)), on(flat(), brick("a", 801, 0)),
			on(flat(), in(0, a)), on(flat(), in(4, a)), on(flat(), deep(0, a)), on(flat(), a, placed{}, a),
			on(flat(), placed{Stone: a.Stone, Way: 8, Skin: place.Front}), on(flat(), brick("a", math.MaxInt, math.MinInt)),
		},
		api.ErrLimit: {on(path(-api.MaxFar, 0, api.MaxFar, 0), many(api.MaxWall+1)...)},
		api.ErrTwice: {on(flat(), a, a), on(flat(), a, brick("a", 300, 0))},
		api.ErrVoid:  {on(flat(), a, brick("b", 199, 0)), on(flat(), brick("a", 0, -1))},
	}
}

// badRules returns rules that are not valid, by what is wrong with them.
func badRules() map[string]rules {
	l := map[string]rules{"nothing": {}}
	for _, skin := range []uint8{0, place.Through, 4, 255} {
		l[fmt.Sprint("the skin ", skin)] = front(func(r *rules) { r.Skin = skin })
	}
	for _, n := range append([]int{-1, api.MaxPin + 1}, far...) {
		l[fmt.Sprint("the pin ", n)] = front(func(r *rules) { r.Pin = n })
	}
	for _, n := range append([]int{-1, api.MaxLength + 1}, far...) {
		l[fmt.Sprint("Wide ", n)] = front(func(r *rules) { r.Wide = n })
		l[fmt.Sprint("Lap ", n)] = front(func(r *rules) { r.Lap = n })
		l[fmt.Sprint("Step ", n)] = front(func(r *rules) { r.Step = n })
		l[fmt.Sprint("Run ", n)] = front(func(r *rules) { r.Run = n })
		l[fmt.Sprint("Level ", n)] = front(func(r *rules) { r.Level = n })
	}
	return l
}

// Random walls.

func pick[T any](x *rand.Rand, l ...T) T { return l[x.Intn(len(l))] }

func randomSkin(x *rand.Rand) uint8 {
	return pick(x, place.Front, place.Front, place.Front, place.Through, place.Back)
}

// random returns a stone that is the hull of random points in a box.
func random(x *rand.Rand, name string, wide, high int) stone.Stone {
	for {
		var l []point
		for range 3 + x.Intn(9) {
			l = append(l, at(x.Intn(wide+1), x.Intn(high+1)))
		}
		if shape, e := stone.Hull(l); e == api.OK {
			s := shaped(name, shape...)
			s.Depth = 1 + x.Intn(8)
			return s
		}
	}
}

// heaped returns a wall of stones that are dropped anywhere.
func heaped(t *testing.T, x *rand.Rand) wall {
	t.Helper()
	size := 3 + x.Intn(8)
	w := on(path(0, x.Intn(3), size, x.Intn(3), 3*size, x.Intn(3)))
	for i := range 1 + x.Intn(9) {
		p := put(random(x, fmt.Sprint("s", i), 1+x.Intn(size), 1+x.Intn(size)), 0, 1000, randomSkin(x))
		p.Way = x.Intn(8)
		turned := ok[stone.Stone](t)(stone.Turned(p.Stone, p.Way))
		wide, _, _ := stone.Extent(turned)
		p.At.X = x.Intn(3*size - wide + 1)
		p.At.Z -= ok[int](t)(place.Drop(w, p))
		w.Stones = append(w.Stones, p)
	}
	return w
}

// coursed returns a wall of boxes in courses that are mostly level, in no order.
func coursed(x *rand.Rand) wall {
	w := on(path(-5, 0, 60, 0))
	base := 0
	for course := range 1 + x.Intn(6) {
		high := 3 + x.Intn(4)
		left := course % 2 * x.Intn(4)
		for left < 22 && len(w.Stones) < 26 {
			wide := 3 + x.Intn(7)
			p := boxed(fmt.Sprint("s", len(w.Stones)), left, base+pick(x, 0, 0, 0, 1), wide, high-pick(x, 1, 1, 1, 2))
			w.Stones = append(w.Stones, deep(1+x.Intn(9), in(randomSkin(x), p)))
			left += wide + pick(x, 0, 0, 0, 1, 2, 3)
		}
		base += high
	}
	x.Shuffle(len(w.Stones), func(i, j int) { w.Stones[i], w.Stones[j] = w.Stones[j], w.Stones[i] })
	return w
}

func randomRules(x *rand.Rand) rules {
	return rules{
		Skin: pick(x, place.Front, place.Front, place.Back), Pin: pick(x, 0, 1, 2, 50),
		Wide: x.Intn(4), Lap: x.Intn(6), Step: x.Intn(4), Run: x.Intn(20), Level: x.Intn(3),
	}
}

// randomWalls calls a test with many walls and rules, one after the other.
func randomWalls(t *testing.T, seed int64, count int, test func(x *rand.Rand, w wall, r rules)) {
	t.Helper()
	x := rand.New(rand.NewSource(seed))
	for n := range count {
		w := coursed(x)
		if n%3 == 0 {
			w = heaped(t, x)
		}
		test(x, w, randomRules(x))
	}
}

func moved(w wall, x, z int) wall {
	w = copied(w)
	for i := range w.Ground {
		w.Ground[i] = at(w.Ground[i].X+x, w.Ground[i].Z+z)
	}
	for i := range w.Stones {
		w.Stones[i].At = at(w.Stones[i].At.X+x, w.Stones[i].At.Z+z)
	}
	return w
}

// What is wanted.

func wantErr(t *testing.T, what string, got, want api.Errno) {
	t.Helper()
	if got != want {
		t.Errorf("%s: %v, want %v", what, got, want)
	}
}

func want[A any](t *testing.T, what string, got, want A) {
	t.Helper()
	if !reflect.DeepEqual(got, want) {
		t.Errorf("%s: %v, want %v", what, got, want)
	}
}

// wantList takes a nil list for an empty one.
func wantList[A comparable](t *testing.T, what string, got []A, want ...A) {
	t.Helper()
	if !slices.Equal(got, want) {
		t.Errorf("%s: %v, want %v", what, got, want)
	}
}

func ok[A any](t *testing.T) func(a A, e api.Errno) A {
	return func(a A, e api.Errno) A {
		t.Helper()
		if e != api.OK {
			t.Errorf("%v, want OK", e)
		}
		return a
	}
}

func copied(w wall) wall {
	w.Ground, w.Stones = slices.Clone(w.Ground), slices.Clone(w.Stones)
	for i := range w.Stones {
		w.Stones[i].Stone.Shape = slices.Clone(w.Stones[i].Stone.Shape)
	}
	return w
}

// wantKept fails if a call has changed a wall.
func wantKept(t *testing.T, what string, w wall, call func()) {
	t.Helper()
	before := copied(w)
	call()
	if !reflect.DeepEqual(w, before) {
		t.Errorf("%s has changed its argument %v to %v", what, before, w)
	}
}
