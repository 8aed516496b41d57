package thrust_test

import (
	"fmt"
	"math/rand"
	"slices"
	"testing"

	"copestone/api"
	"copestone/place"
	"copestone/stone"
	"copestone/thrust"
	"copestone/whole"
)

// down is a force downward at a point with whole numbers.
func down(on, by int, x, z int64, f whole.R) force {
	return force{On: on, By: by, At: v(x, z), F: whole.V{Z: f.Neg()}}
}

func wantReason(t *testing.T, what string, c cased, i int, kind uint8, by int, at whole.V) {
	t.Helper()
	want(t, what, reasonText(fails(t, what, c)), reasonText(thrust.Reason{Stone: i, Kind: kind, By: by, At: at}))
}

// P4.2: Stand.

func TestStandExamples(t *testing.T) {
	w := weights
	wantForces(t, "a brick", stands(t, "a brick", front(brick("a", 0, 0))), down(0, -1, 200, 0, w(1, 2)), down(0, -1, 0, 0, w(1, 2)))
	c := front(brick("a", 0, 0), brick("c", 150, 80))
	wantReason(t, "c tips", c, 1, thrust.Tips, 0, v(200, 80))
	c = front(brick("a", 0, 0), brick("c", 90, 80))
	wantForces(t, "c stands", stands(t, "c stands", c),
		down(0, -1, 200, 0, w(29, 20)), down(0, -1, 0, 0, w(11, 20)), down(1, 0, 200, 80, w(10, 11)), down(1, 0, 90, 80, w(1, 11)))
	c = load(0, n(0), n(40), w(-1, 2), n(0)).to(front(brick("a", 0, 0)))
	f := whole.V{X: w(-1, 2), Z: w(-1, 1)}
	wantForces(t, "a load", stands(t, "a load", c),
		force{On: 0, By: -1, At: v(200, 0), F: f.Scale(r(2, 5))}, force{On: 0, By: -1, At: v(0, 0), F: f.Scale(r(3, 5))})
	c.Low = r(1, 3)
	wantReason(t, "too smooth", c, 0, thrust.Slides, -1, v(200, 0))
}

func TestStandWithoutStones(t *testing.T) {
	want(t, "no stones", len(stands(t, "no stones", front())), 0)
	other := front(put(box("a", 9, 9), 0, 0, 500, place.Back))
	want(t, "all in the other skin", len(stands(t, "all in the other skin", other)), 0)
}

// What a stone presses when two contacts are equally far, or the force goes
// through one of them.
func TestStandOfEqualContacts(t *testing.T) {
	w := weights
	wantForces(t, "over a joint", stands(t, "over a joint", three()),
		down(0, -1, 200, 0, w(3, 2)), down(0, -1, 0, 0, w(1, 2)), down(1, -1, 400, 0, w(1, 2)), down(1, -1, 200, 0, w(1, 2)), down(2, 0, 200, 80, w(1, 1)))
	c := front(brick("b", 200, 0), brick("a", 0, 0), brick("c", 100, 80))
	wantForces(t, "the same, in another order", stands(t, "the same, in another order", c),
		down(0, -1, 400, 0, w(1, 2)), down(0, -1, 200, 0, w(3, 2)), down(1, -1, 200, 0, w(1, 2)), down(1, -1, 0, 0, w(1, 2)), down(2, 0, 200, 80, w(1, 1)))
	c = front(brick("a", 0, 0), brick("b", 200, 0), brick("c", 120, 80))
	wantForces(t, "right of a joint", stands(t, "right of a joint", c)[4:], down(2, 1, 320, 80, w(1, 6)), down(2, 0, 200, 80, w(5, 6)))
	c = front(brick("a", 0, 0), brick("b", 200, 0), brick("c", 80, 80))
	wantForces(t, "left of a joint", stands(t, "left of a joint", c)[4:], down(2, 0, 200, 80, w(5, 6)), down(2, 0, 80, 80, w(1, 6)))
	c = front(brick("a", 0, 0), brick("c", 100, 80))
	wantForces(t, "just upon an end", stands(t, "just upon an end", c)[2:], down(1, 0, 200, 80, w(1, 1)))
	wantReason(t, "just over an end", front(brick("a", 0, 0), brick("c", 101, 80)), 1, thrust.Tips, 0, v(200, 80))
	c = front(brick("a", 0, 0), brick("c", -100, 80))
	wantForces(t, "upon the left end", stands(t, "upon the left end", c),
		down(0, -1, 200, 0, w(1, 2)), down(0, -1, 0, 0, w(3, 2)), down(1, 0, 0, 80, w(1, 1)))
	wantReason(t, "over the left end", front(brick("a", 0, 0), brick("c", -101, 80)), 1, thrust.Tips, 0, v(0, 80))
}

// A tip that lies on a point has one contact.
func TestStandOnAPoint(t *testing.T) {
	tip := put(shaped("t", path(3, 0, 6, 3, 3, 6, 0, 3)...), 0, 0, 0, place.Front)
	wantForces(t, "a tip", stands(t, "a tip", front(tip)), down(0, -1, 3, 0, n(36*240000)))
	c := load(0, n(4), n(3), n(0), n(-1)).to(front(tip))
	wantReason(t, "a tip, with a load", c, 0, thrust.Tips, -1, v(3, 0))
}

// The reason is that of the stone that is done first: of those with nothing
// upon them the one with the least number.
func TestStandOrder(t *testing.T) {
	hung := func(name string, x int) placed { return brick(name, x, 900) }
	wantReason(t, "two that hang", front(brick("a", 0, 0), hung("b", 300), hung("c", 0)), 1, thrust.Hangs, -1, whole.V{})
	c := front(hung("a", 0), brick("b", 0, 980))
	wantReason(t, "what lies on it is done before it", c, 0, thrust.Hangs, -1, whole.V{})
	c = front(hung("a", 0), brick("b", 101, 980))
	wantReason(t, "what tips on it comes before it", c, 1, thrust.Tips, 0, v(200, 980))
	c = front(hung("a", 0), brick("b", 0, 980), hung("c", 300))
	wantReason(t, "the next one is done when all upon it are", c, 0, thrust.Hangs, -1, whole.V{})
	c = front(hung("a", 0), hung("c", 300), brick("b", 0, 980))
	wantReason(t, "what is free comes before what is not", c, 1, thrust.Hangs, -1, whole.V{})
}

func TestStandLifted(t *testing.T) {
	a := front(brick("a", 0, 0))
	wantReason(t, "as much as it weighs", load(0, n(0), n(0), n(0), weights(1, 1)).to(a), 0, thrust.Lifts, -1, whole.V{})
	wantReason(t, "more", load(0, n(0), n(0), n(5), weights(2, 1)).to(a), 0, thrust.Lifts, -1, whole.V{})
	c := load(0, n(100), n(0), n(0), weights(1, 1).Sub(n(2))).to(a)
	wantForces(t, "a bit less", stands(t, "a bit less", c), down(0, -1, 200, 0, n(1)), down(0, -1, 0, 0, n(1)))
	c = load(0, n(0), n(0), n(0), weights(9, 1)).to(front(brick("a", 0, 900)))
	wantReason(t, "what hangs hangs", c, 0, thrust.Hangs, -1, whole.V{})
	c = load(0, n(100), n(0), n(0), weights(1, 1)).to(front(brick("a", 0, 0), brick("b", 0, 80)))
	wantForces(t, "what lies on it holds it down", stands(t, "held down", c)[:2], down(0, -1, 200, 0, weights(1, 2)), down(0, -1, 0, 0, weights(1, 2)))
}

// The force goes along the friction's limit, or a bit beyond it, on either side.
func TestStandSlides(t *testing.T) {
	slope := func(rise int, low whole.R) cased {
		c := frontOn(path(-1000, -rise, 1000, rise), put(shaped("a", path(0, 0, 10, rise/100, 10, 9, 0, 9)...), 0, 0, 0, place.Front))
		c.Low, c.High = low, n(10)
		return c
	}
	stands(t, "level, without friction", slope(0, n(0)))
	stands(t, "a slope", slope(500, r(1, 2)))
	wantReason(t, "a slope, too smooth", slope(500, r(499, 1000)), 0, thrust.Slides, -1, v(10, 5))
	a := front(brick("a", 0, 0))
	for _, way := range []whole.R{n(1), n(-1)} {
		stands(t, "a push", load(0, n(100), n(0), way.Mul(weights(1, 2)), n(0)).to(a))
		c := load(0, n(100), n(0), way.Mul(weights(1, 2).Add(n(1))), n(0)).to(a)
		wantReason(t, "a greater push", c, 0, thrust.Slides, -1, v(200, 0))
	}
	// Only the second contact is too smooth, as the ground bends below the stone.
	bent := frontOn(path(-1000, 0, 0, 0, 5, 0, 10, 5, 20, 5), put(box("a", 10, 9), 0, 0, 5, place.Front))
	bent.Pin, bent.Low, bent.High = 9, n(0), n(0)
	wantReason(t, "at l", bent, 0, thrust.Slides, -1, v(10, 5))
	bent = frontOn(path(-1000, 10, 0, 5, 5, 0, 20, 0), put(box("a", 10, 9), 0, 0, 5, place.Front))
	bent.Pin, bent.Low, bent.High = 9, n(0), n(0)
	wantReason(t, "at r", bent, 0, thrust.Slides, -1, v(0, 5))
}

// A through stone shares its weight among the skins, and lies on both.
func TestStandOfThroughs(t *testing.T) {
	wall := on(flat(), brick("a", 0, 0), put(box("b", 200, 80), 0, 0, 0, place.Back), put(box("t", 200, 80), 0, 90, 80, place.Through))
	c := cased{Wall: wall, Skin: place.Front, Low: r(1, 2), High: r(1, 2)}
	w := weights
	wantForces(t, "Front", stands(t, "Front", c),
		down(0, -1, 200, 0, w(39, 40)), down(0, -1, 0, 0, w(21, 40)), down(2, 0, 200, 80, w(5, 11)), down(2, 0, 90, 80, w(1, 22)))
	c.Skin = place.Back
	wantForces(t, "Back", stands(t, "Back", c),
		down(1, -1, 200, 0, w(39, 40)), down(1, -1, 0, 0, w(21, 40)), down(2, 1, 200, 80, w(5, 11)), down(2, 1, 90, 80, w(1, 22)))
	c.Wall.Stones = c.Wall.Stones[1:]
	c.Skin = place.Front
	wantReason(t, "it hangs in the skin without what carries it", c, 1, thrust.Hangs, -1, whole.V{})
	odd := put(box("o", 1, 1), 0, 0, 0, place.Through)
	odd.Stone.Density = 1
	odd.Stone.Depth = 1
	wantForces(t, "an odd weight", stands(t, "an odd weight", front(odd)), down(0, -1, 1, 0, r(1, 2)), down(0, -1, 0, 0, r(1, 2)))
}

func TestStandMany(t *testing.T) {
	seen := map[uint8]int{}
	randomCases(t, 52, 3000, func(_ *rand.Rand, c cased) {
		s := slowly(c)
		var l []force
		var x thrust.Reason
		var e api.Errno
		wantKept(t, "Stand", c, func() { l, x, e = thrust.Stand(c) })
		what := caseText(c)
		want(t, what, textOf(l), textOf(s.forces))
		want(t, what, reasonText(x), reasonText(s.reason))
		wantErr(t, what, e, map[bool]api.Errno{true: api.OK, false: api.ErrFail}[s.reason.Kind == 0])
		seen[x.Kind]++
	})
	for kind, least := range []int{500, 80, 80, 300, 200} {
		if seen[uint8(kind)] < least {
			t.Errorf("kind %d: %d times", kind, seen[uint8(kind)])
		}
	}
}

// As many stones as there may be, in courses.
func TestStandOfAWholeWall(t *testing.T) {
	var l []placed
	for i := range api.MaxWall {
		course := i / 10
		p := brick(fmt.Sprint("s", i), 200*(i%10)+90*(course%2), 80*course)
		l = append(l, p)
	}
	c := frontOn(path(-9000, 0, 9000, 0), l...)
	forces := stands(t, "a wall", c)
	want(t, "Prove", thrust.Prove(c, forces), true)
	s := slowly(c)
	want(t, "forces", textOf(forces), textOf(s.forces))
}

// P4.3: Prove.

func TestProve(t *testing.T) {
	c := three()
	good := stands(t, "three", c)
	half := down(2, 0, 200, 80, weights(1, 2))
	for what, x := range map[string]struct {
		l  []force
		ok bool
	}{
		"what Stand returns":    {good, true},
		"in another order":      {[]force{good[4], good[1], good[3], good[0], good[2]}, true},
		"in parts":              {slices.Concat(good[:4], []force{half, half}), true},
		"nothing":               {nil, false},
		"one is left out":       {good[1:], false},
		"the last is left out":  {good[:4], false},
		"one is there twice":    {append(slices.Clone(good), good[0]), false},
		"one with no force":     {append(slices.Clone(good), force{On: 2, By: 0, At: v(200, 80)}), false},
		"on itself":             {append(slices.Clone(good), force{On: 2, By: 2, At: v(200, 80), F: v(0, -1)}), false},
		"on no stone":           {append(slices.Clone(good), force{On: 2, By: 3, At: v(200, 80), F: v(0, -1)}), false},
		"on what is no ground":  {append(slices.Clone(good), force{On: 2, By: -2, At: v(200, 80), F: v(0, -1)}), false},
		"of no stone":           {append(slices.Clone(good), force{On: -1, By: -1, At: v(200, 80), F: v(0, -1)}), false},
		"of the fourth of them": {append(slices.Clone(good), force{On: 3, By: -1, At: v(200, 80), F: v(0, -1)}), false},
		"at no contact":         {slices.Concat(good[:4], []force{down(2, 0, 150, 80, weights(1, 2)), down(2, 1, 250, 80, weights(1, 2))}), false},
		"by another stone":      {slices.Concat(good[:4], []force{down(2, 1, 200, 80, weights(1, 1))}), false},
	} {
		want(t, what, thrust.Prove(c, x.l), x.ok)
	}
	// Forces that Stand does not find are right as well.
	other := []force{down(0, -1, 0, 0, weights(3, 4)), down(0, -1, 200, 0, weights(3, 4)), down(1, -1, 400, 0, weights(3, 4)), down(1, -1, 200, 0, weights(3, 4)),
		down(2, 0, 100, 80, weights(1, 2)), down(2, 1, 300, 80, weights(1, 2))}
	want(t, "other forces", thrust.Prove(c, other), true)
	for _, k := range far {
		want(t, "far numbers", thrust.Prove(c, append(slices.Clone(good), force{On: k, By: k, At: v(200, 80), F: v(0, -1)})), false)
	}
	want(t, "no stones", thrust.Prove(front(), nil), true)
	want(t, "no stones, a force", thrust.Prove(front(), good[:1]), false)
}

// A sum of forces that is 0 is not enough: that of the Crosses must be, too.
func TestProveTurns(t *testing.T) {
	c := front(brick("a", 0, 0))
	want(t, "at the wrong ends", thrust.Prove(c, []force{down(0, -1, 200, 0, weights(1, 3)), down(0, -1, 0, 0, weights(2, 3))}), false)
	want(t, "at the right ends", thrust.Prove(c, []force{down(0, -1, 200, 0, weights(1, 2)), down(0, -1, 0, 0, weights(1, 2))}), true)
	// Forces toward each other, within the friction's limits, hold as well.
	squeeze := func(by whole.R) []force {
		return []force{{On: 0, By: -1, At: v(200, 0), F: whole.V{X: by, Z: weights(-1, 2)}}, {On: 0, By: -1, At: v(0, 0), F: whole.V{X: by.Neg(), Z: weights(-1, 2)}}}
	}
	want(t, "a squeeze", thrust.Prove(c, squeeze(weights(1, 4))), true)
	want(t, "a squeeze outward", thrust.Prove(c, squeeze(weights(-1, 4))), true)
	want(t, "a squeeze that is too great", thrust.Prove(c, squeeze(weights(1, 4).Add(n(1)))), false)
	want(t, "a squeeze outward that is too great", thrust.Prove(c, squeeze(weights(-1, 4).Sub(n(1)))), false)
}

// changed returns forces with a change, which mostly makes them wrong.
func changed(x *rand.Rand, c cased, l []force) []force {
	l = slices.Clone(l)
	if len(l) == 0 {
		return l
	}
	k := x.Intn(len(l))
	switch x.Intn(8) {
	case 0:
		l[k].F = l[k].F.Scale(pick(x, r(1, 2), n(2), n(-1), n(0)))
	case 1:
		l[k].On = x.Intn(len(c.Wall.Stones))
	case 2:
		l[k].By = x.Intn(len(c.Wall.Stones)+1) - 1
	case 3:
		l[k].At = l[x.Intn(len(l))].At
	case 4:
		l = append(l, l[k])
	case 5:
		l[k].F = l[k].F.Scale(r(1, 3))
		l = append(l, l[k], l[k])
	case 6:
		l[k].F.X = l[k].F.X.Add(r(1, 7))
	case 7:
		l = slices.Delete(l, k, k+1)
	}
	return l
}

// squeezed adds two opposite forces at two contacts of a stone, on one level,
// which is still right as long as both may press.
func squeezed(l []force, by whole.R) []force {
	l = slices.Clone(l)
	for k := 1; k < len(l); k++ {
		if l[k].On == l[k-1].On && l[k].At.Z.Cmp(l[k-1].At.Z) == 0 {
			l[k].F.X, l[k-1].F.X = l[k].F.X.Add(by), l[k-1].F.X.Sub(by)
			break
		}
	}
	return l
}

func TestProveMany(t *testing.T) {
	seen := map[bool]int{}
	randomCases(t, 53, 1500, func(x *rand.Rand, c cased) {
		l, _, e := thrust.Stand(c)
		if e != api.OK {
			l, _, _ = thrust.Stand(cased{Wall: c.Wall, Skin: c.Skin, Pin: api.MaxPin, Low: n(10), High: n(10)})
		}
		for range 6 {
			m := changed(x, c, l)
			if x.Intn(3) == 0 {
				m = squeezed(l, randomRatio(x, 4))
			}
			var got bool
			wantKept(t, "Prove", c, func() { got = thrust.Prove(c, m) })
			want(t, fmt.Sprint(caseText(c), textOf(m)), got, slowRight(c, m))
			seen[got]++
		}
	})
	if seen[true] < 500 || seen[false] < 2000 {
		t.Errorf("%v", seen)
	}
}

// P4.7: Carried.

func TestCarried(t *testing.T) {
	l := []force{
		{On: 0, By: -1, At: v(1, 2), F: v(3, 4)},
		{On: 5, By: 7, At: v(9, 9), F: v(1, 0)},
		{On: 7, By: -1, At: whole.V{X: r(1, 2)}, F: whole.V{Z: r(1, 3)}},
		{On: 0, By: 7, At: v(0, 1), F: v(1, 0)},
		{On: 0, By: far[0], At: v(0, 1), F: v(1, 0)},
	}
	for by, x := range map[int][2]string{
		-1: {"(3, 13/3)", "-11/6"}, 7: {"(2, 0)", "-10"}, 0: {"(0, 0)", "0"}, 5: {"(0, 0)", "0"}, -2: {"(0, 0)", "0"}, far[0]: {"(1, 0)", "-1"}, far[1]: {"(0, 0)", "0"},
	} {
		f, turn := thrust.Carried(l, by)
		want(t, fmt.Sprint(by), [2]string{f.Text(), turn.Text()}, x)
	}
	f, turn := thrust.Carried(nil, -1)
	want(t, "nothing", [2]string{f.Text(), turn.Text()}, [2]string{"(0, 0)", "0"})
}

// P4.8: Prove accepts what Stand returns. P4.9: the ground carries all weights
// and loads. P4.10: more friction does no harm.
func TestForcesMany(t *testing.T) {
	count := 0
	randomCases(t, 54, 1500, func(_ *rand.Rand, c cased) {
		l, _, e := thrust.Stand(c)
		if e != api.OK {
			return
		}
		count++
		what := caseText(c)
		want(t, what+": Prove", thrust.Prove(c, l), true)
		var all []acting
		for _, i := range stonesOf(c) {
			all = append(all, actingOn(c, i)...)
		}
		f, u := sumOf(all)
		force, turn := thrust.Carried(l, -1)
		want(t, what+": Carried", []string{force.Text(), turn.Text()}, []string{f.v().Text(), toR(u).Text()})
		more := c
		more.High = n(10)
		want(t, what+": a greater High", thrust.Prove(more, l), true)
		more.Low = c.Low.Add(r(1, 9))
		want(t, what+": a greater Low", thrust.Prove(more, l), more.Low.Cmp(more.High) <= 0)
	})
	if count < 300 {
		t.Errorf("%d cases stand", count)
	}
}

// P4.11: if all weighs more, all forces are greater.
func TestWeightsMany(t *testing.T) {
	randomCases(t, 55, 600, func(x *rand.Rand, c cased) {
		l, reason, _ := thrust.Stand(c)
		by := 2 + x.Intn(50)
		c = copied(c)
		for i := range c.Wall.Stones {
			c.Wall.Stones[i].Stone.Density *= by
		}
		for i := range c.Loads {
			c.Loads[i].Force = c.Loads[i].Force.Scale(n(int64(by)))
		}
		for i := range l {
			l[i].F = l[i].F.Scale(n(int64(by)))
		}
		heavier, same, _ := thrust.Stand(c)
		want(t, caseText(c), textOf(heavier), textOf(l))
		want(t, caseText(c), reasonText(same), reasonText(reason))
	})
}

// inserted returns a case with one more stone at this place in the list.
func inserted(c cased, k int, p placed) cased {
	c = copied(c)
	c.Wall.Stones = slices.Insert(c.Wall.Stones, k, p)
	for i := range c.Loads {
		if c.Loads[i].Stone >= k {
			c.Loads[i].Stone++
		}
	}
	return c
}

// P4.12: a stone that is far from all others changes nothing for them.
func TestFarStones(t *testing.T) {
	randomCases(t, 56, 600, func(x *rand.Rand, c cased) {
		c = copied(c)
		end := c.Wall.Ground[len(c.Wall.Ground)-1]
		c.Wall.Ground = append(c.Wall.Ground, at(end.X+10, end.Z), at(end.X+20, end.Z))
		l, reason, _ := thrust.Stand(c)
		k := x.Intn(len(c.Wall.Stones) + 1)
		moved := func(i int) int {
			if i >= k {
				return i + 1
			}
			return i
		}
		more := inserted(c, k, put(light(box("far", 4, 4)), 0, end.X+12, end.Z, pick(x, c.Skin, place.Through)))
		got, same, e := thrust.Stand(more)
		if e == api.OK {
			got = slices.DeleteFunc(got, func(f force) bool { return f.On == k })
			for i := range l {
				l[i].On, l[i].By = moved(l[i].On), moved(l[i].By)
			}
			want(t, caseText(more), textOf(got), textOf(l))
		}
		if reason.Kind != 0 {
			reason.Stone, reason.By = moved(reason.Stone), moved(reason.By)
			wantErr(t, caseText(more), e, api.ErrFail)
		}
		want(t, caseText(more), reasonText(same), reasonText(reason))
	})
}

// What Stand returns shares no memory with the case, or with another result.
func TestStandMemory(t *testing.T) {
	c := three()
	l := stands(t, "three", c)
	before := textOf(l)
	other := stands(t, "three", c)
	for i := range l {
		l[i] = force{}
	}
	c.Wall.Stones[0].Stone.Shape = []stone.Point{}
	want(t, "another result", textOf(other), before)
}
