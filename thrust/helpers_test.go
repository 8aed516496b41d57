package thrust_test

import (
	"fmt"
	"math"
	"math/big"
	"math/rand"
	"reflect"
	"slices"
	"testing"

	"copestone/api"
	"copestone/place"
	"copestone/stone"
	"copestone/thrust"
	"copestone/whole"
)

// The tests hold the package against slow ways that follow the words of the
// chapter with numbers of math/big (slow_test.go); only the beds are those of
// package place.

type (
	point  = stone.Point
	placed = place.Placed
	wall   = place.Wall
	cased  = thrust.Case
	force  = thrust.Force
	motion = thrust.Motion
)

const brickWeight = 7680000000

var far = []int{math.MaxInt, math.MinInt, math.MaxInt32, math.MinInt32, 1 << 40, -1 << 40}

func at(x, z int) point { return point{X: x, Z: z} }

// path returns the points whose X and Z these are, in turn.
func path(numbers ...int) []point {
	var l []point
	for i := 0; i < len(numbers); i += 2 {
		l = append(l, at(numbers[i], numbers[i+1]))
	}
	return l
}

func shaped(name string, l ...point) stone.Stone {
	return stone.Stone{Name: name, Shape: l, Depth: 100, Density: 2400, Grain: point{X: 1}}
}

func box(name string, wide, high int) stone.Stone {
	return shaped(name, at(0, 0), at(wide, 0), at(wide, high), at(0, high))
}

func put(s stone.Stone, way, x, z int, skin uint8) placed {
	return placed{Stone: s, Way: way, At: at(x, z), Skin: skin}
}

// brick is a brick at the front.
func brick(name string, x, z int) placed { return put(box(name, 200, 80), 0, x, z, place.Front) }

func flat() []point { return path(-1000, 0, 1000, 0) }

func on(ground []point, l ...placed) wall { return wall{Ground: ground, Stones: l} }

// front is a case as in the chapter's examples.
func front(l ...placed) cased { return frontOn(flat(), l...) }

func frontOn(ground []point, l ...placed) cased {
	return cased{Wall: on(ground, l...), Skin: place.Front, Low: r(1, 2), High: r(1, 2)}
}

func (l loads) to(c cased) cased {
	c.Loads = append(slices.Clone(c.Loads), l...)
	return c
}

type loads []thrust.Load

func load(i int, x, z, fx, fz whole.R) loads {
	return loads{{Stone: i, At: whole.V{X: x, Z: z}, Force: whole.V{X: fx, Z: fz}}}
}

// three are the bricks of chapter 3.
func three() cased { return front(brick("a", 0, 0), brick("b", 200, 0), brick("c", 100, 80)) }

// many returns bricks that lie beside each other, with different names.
func many(count int) []placed {
	var l []placed
	for i := range count {
		l = append(l, brick(fmt.Sprint("m", i), 200*i, 0))
	}
	return l
}

// badWalls returns walls that are not valid, by their errors.
func badWalls() map[api.Errno][]wall {
	a := brick("a", 0, 0)
	return map[api.Errno][]wall{
		api.ErrArg: {
			{}, on(path(0, 0), a), on(path(5, 0, 0, 0)), on(flat(), placed{}), on(flat(), brick("A", 0, 0)), on(flat(), brick("a", 801, 0)),
			on(flat(), put(box("a", 9, 9), 8, 0, 0, place.Front)), on(flat(), put(box("a", 9, 9), 0, 0, 0, 0)), on(flat(), a, placed{}, a),
			on(flat(), put(box("a", 9, 9), 0, math.MaxInt, math.MinInt, place.Front)),
		},
		api.ErrLimit: {on(path(-api.MaxFar, 0, api.MaxFar, 0), many(api.MaxWall+1)...)},
		api.ErrTwice: {on(flat(), a, a), on(flat(), a, brick("a", 300, 0))},
		api.ErrVoid:  {on(flat(), a, brick("b", 199, 0)), on(flat(), brick("a", 0, -1))},
	}
}

// badCases returns cases whose walls are valid, and that are not, by their errors.
func badCases() map[string]struct {
	c cased
	e api.Errno
} {
	l := map[string]struct {
		c cased
		e api.Errno
	}{}
	add := func(what string, e api.Errno, change func(c *cased)) {
		c := three()
		c.Wall.Stones = append(c.Wall.Stones, put(box("h", 50, 50), 0, -500, 0, place.Back))
		change(&c)
		l[what] = struct {
			c cased
			e api.Errno
		}{c, e}
	}
	for _, skin := range []uint8{0, place.Through, 4, 255} {
		add(fmt.Sprint("the skin ", skin), api.ErrArg, func(c *cased) { c.Skin = skin })
	}
	for _, pin := range append([]int{-1, api.MaxPin + 1}, far...) {
		add(fmt.Sprint("the pin ", pin), api.ErrArg, func(c *cased) { c.Pin = pin })
	}
	add("Low below 0", api.ErrArg, func(c *cased) { c.Low = r(-1, 1000) })
	add("Low above High", api.ErrArg, func(c *cased) { c.Low = r(501, 1000) })
	add("High too great", api.ErrArg, func(c *cased) { c.High = r(10001, 1000) })
	add("both too great", api.ErrArg, func(c *cased) { c.Low, c.High = r(11, 1), r(11, 1) })
	for _, i := range append([]int{-1, 4}, far...) {
		add(fmt.Sprint("a load on ", i), api.ErrArg, func(c *cased) { c.Loads = []thrust.Load{{Stone: 0}, {Stone: i}} })
	}
	add("a load on the other skin", api.ErrArg, func(c *cased) { c.Loads = []thrust.Load{{Stone: 3}} })
	add("a load on this skin, for the other case", api.ErrArg, func(c *cased) { c.Skin, c.Loads = place.Back, []thrust.Load{{Stone: 0}} })
	add("many loads", api.ErrLimit, func(c *cased) { c.Loads = make([]thrust.Load, api.MaxLoads+1) })
	add("many loads, one wrong", api.ErrArg, func(c *cased) {
		c.Loads = make([]thrust.Load, api.MaxLoads+1)
		c.Loads[api.MaxLoads].Stone = 3
	})
	return l
}

// Numbers.

func r(n, d int64) whole.R {
	a, _ := whole.Ratio(n, d)
	return a
}

func n(a int64) whole.R { return whole.Of(a) }

func v(x, z int64) whole.V { return whole.V{X: n(x), Z: n(z)} }

// weights returns so many weights of a brick.
func weights(a, b int64) whole.R { return n(brickWeight).Mul(r(a, b)) }

type rat = *big.Rat

// toRat and toR share only the texts of numbers with package whole.
func toRat(a whole.R) rat {
	b, _ := new(big.Rat).SetString(a.Text())
	return b
}

func toR(a rat) whole.R {
	b, _ := whole.OfZ(toZ(a.Num()), toZ(a.Denom()))
	return b
}

// toZ reads digit by digit, as whole reads no text of more than MaxDigits.
func toZ(a *big.Int) whole.Z {
	var b whole.Z
	for _, c := range new(big.Int).Abs(a).String() {
		b = b.Mul(whole.Int(10)).Add(whole.Int(int64(c - '0')))
	}
	return b.Mul(whole.Int(int64(a.Sign())))
}

// Texts, which tell equal results from others.

func textOf(l []force) []string {
	texts := []string{}
	for _, f := range l {
		texts = append(texts, fmt.Sprint(f.On, " on ", f.By, " at ", f.At.Text(), ": ", f.F.Text()))
	}
	return texts
}

func reasonText(x thrust.Reason) string {
	return fmt.Sprint("stone ", x.Stone, " kind ", x.Kind, " by ", x.By, " at ", x.At.Text())
}

func motionText(m motion) string { return fmt.Sprint(m.Stones, m.Turn, m.At.Text()) }

func caseText(c cased) string {
	text := fmt.Sprint(c.Wall, c.Skin, c.Pin, c.Low.Text(), c.High.Text())
	for _, l := range c.Loads {
		text += fmt.Sprint("; ", l.Stone, l.At.Text(), l.Force.Text())
	}
	return text
}

// Random cases.

// random returns a stone that is the hull of random points in a box. Its weight
// is its doubled area.
func random(x *rand.Rand, name string, wide, high int) stone.Stone {
	for {
		var l []point
		for range 3 + x.Intn(9) {
			l = append(l, at(x.Intn(wide+1), x.Intn(high+1)))
		}
		if shape, e := stone.Hull(l); e == api.OK {
			return light(shaped(name, shape...))
		}
	}
}

func light(s stone.Stone) stone.Stone {
	s.Depth, s.Density = 1, 1
	return s
}

func pick[T any](x *rand.Rand, l ...T) T { return l[x.Intn(len(l))] }

func randomSkin(x *rand.Rand) uint8 {
	return pick(x, place.Front, place.Front, place.Front, place.Through, place.Back)
}

// drop adds a stone where it comes to lie.
func drop(t *testing.T, x *rand.Rand, w *wall, s stone.Stone, skin uint8) {
	t.Helper()
	p := put(s, x.Intn(8), 0, 10000, skin)
	s, e := stone.Turned(p.Stone, p.Way)
	wide, _, _ := stone.Extent(s)
	free := w.Ground[len(w.Ground)-1].X - w.Ground[0].X - wide
	if e != api.OK || free < 0 {
		return
	}
	p.At.X = w.Ground[0].X + x.Intn(free+1)
	p.At.Z -= ok[int](t)(place.Drop(*w, p))
	w.Stones = append(w.Stones, p)
}

// heaped returns a wall of stones that are dropped anywhere.
func heaped(t *testing.T, x *rand.Rand) wall {
	size := 3 + x.Intn(8)
	w := on(path(0, x.Intn(3), size, x.Intn(3), 3*size, x.Intn(3)))
	for i := range 1 + x.Intn(6) {
		drop(t, x, &w, random(x, fmt.Sprint("s", i), 1+x.Intn(size), 1+x.Intn(size)), randomSkin(x))
	}
	return w
}

// coursed returns a wall of boxes in courses, which mostly stands, in no order.
func coursed(x *rand.Rand) wall {
	w := on(pick(x, path(-5, 0, 40, 0), path(-5, 0, 12, 0, 40, 0), path(-5, 0, 40, 9)))
	high := pick(x, 3, 8)
	tilt := w.Ground[len(w.Ground)-1].Z
	for course := range 1 + x.Intn(4) {
		left := course * x.Intn(3)
		for left < 24 && len(w.Stones) < 12 {
			wide := 3 + x.Intn(8)
			p := put(light(box(fmt.Sprint("s", len(w.Stones)), wide, high)), 0, left, course*high+tilt, randomSkin(x))
			w.Stones = append(w.Stones, p)
			left += wide + pick(x, 0, 0, 0, 1)
		}
	}
	x.Shuffle(len(w.Stones), func(i, j int) { w.Stones[i], w.Stones[j] = w.Stones[j], w.Stones[i] })
	return w
}

func randomRatio(x *rand.Rand, size int) whole.R {
	return r(int64(x.Intn(2*size+1)-size), int64(1+x.Intn(4)))
}

// randomCase returns one with loads that are mostly small, and downward.
func randomCase(t *testing.T, x *rand.Rand) cased {
	t.Helper()
	c := cased{Wall: coursed(x), Skin: pick(x, place.Front, place.Front, place.Back), Pin: pick(x, 0, 0, 1, 9)}
	if x.Intn(3) == 0 {
		c.Wall, c.Pin = heaped(t, x), pick(x, 0, 1, 3, 50)
	}
	limits := []whole.R{n(0), r(1, 10), r(1, 3), r(1, 2), n(1), n(3), n(10)}
	low := min(x.Intn(len(limits)), x.Intn(len(limits)))
	c.Low, c.High = limits[low], limits[low+x.Intn(len(limits)-low)]
	for range pick(x, 0, 0, 1, 1, 3) {
		if i := x.Intn(len(c.Wall.Stones)); isIn(c, i) {
			p := c.Wall.Stones[i].At
			load := thrust.Load{Stone: i, At: v(int64(p.X+x.Intn(5)), int64(p.Z+x.Intn(5)))}
			load.Force = whole.V{X: randomRatio(x, 9), Z: randomRatio(x, 15).Sub(n(12))}
			if x.Intn(8) == 0 {
				load.Force = load.Force.Scale(n(-9))
			}
			c.Loads = append(c.Loads, load)
		}
	}
	return c
}

// randomCases calls a test with many cases, one after the other.
func randomCases(t *testing.T, seed int64, count int, test func(x *rand.Rand, c cased)) {
	t.Helper()
	x := rand.New(rand.NewSource(seed))
	for range count {
		test(x, randomCase(t, x))
	}
}

// What is wanted.

func wantErr(t *testing.T, what string, got, want api.Errno) {
	t.Helper()
	if got != want {
		t.Errorf("%s: %v, want %v", what, got, want)
	}
}

func want[A any](t *testing.T, what string, got, want A) {
	t.Helper()
	if !reflect.DeepEqual(got, want) {
		t.Errorf("%s: %v, want %v", what, got, want)
	}
}

func ok[A any](t *testing.T) func(a A, e api.Errno) A {
	return func(a A, e api.Errno) A {
		t.Helper()
		if e != api.OK {
			t.Errorf("%v, want OK", e)
		}
		return a
	}
}

// stands returns the forces of a case that stands.
func stands(t *testing.T, what string, c cased) []force {
	t.Helper()
	l, x, e := thrust.Stand(c)
	if e != api.OK || reasonText(x) != reasonText(thrust.Reason{}) {
		t.Errorf("%s: %v, %s, want OK", what, e, reasonText(x))
	}
	return l
}

// fails returns the reason for which a case does not stand.
func fails(t *testing.T, what string, c cased) thrust.Reason {
	t.Helper()
	l, x, e := thrust.Stand(c)
	if e != api.ErrFail || len(l) > 0 {
		t.Errorf("%s: %v, %v, want ErrFail", what, e, textOf(l))
	}
	return x
}

func wantForces(t *testing.T, what string, got []force, want ...force) {
	t.Helper()
	if a, b := textOf(got), textOf(want); !slices.Equal(a, b) {
		t.Errorf("%s: %v, want %v", what, a, b)
	}
}

func wantMotion(t *testing.T, what string, c cased, want motion) {
	t.Helper()
	got := ok[motion](t)(thrust.Fall(c))
	if motionText(got) != motionText(want) {
		t.Errorf("%s: %s, want %s", what, motionText(got), motionText(want))
	}
	if !thrust.ProveFall(c, got) {
		t.Errorf("%s: %s is not proved", what, motionText(got))
	}
}

func copied(c cased) cased {
	c.Wall.Ground, c.Wall.Stones, c.Loads = slices.Clone(c.Wall.Ground), slices.Clone(c.Wall.Stones), slices.Clone(c.Loads)
	for i := range c.Wall.Stones {
		c.Wall.Stones[i].Stone.Shape = slices.Clone(c.Wall.Stones[i].Stone.Shape)
	}
	return c
}

// wantKept fails if a call has changed a case.
func wantKept(t *testing.T, what string, c cased, call func()) {
	t.Helper()
	before := copied(c)
	call()
	if !reflect.DeepEqual(c, before) {
		t.Errorf("%s has changed its argument %s to %s", what, caseText(before), caseText(c))
	}
}
