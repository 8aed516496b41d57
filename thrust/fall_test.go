package thrust_test

import (
	"fmt"
	"math/rand"
	"slices"
	"testing"

	"copestone/api"
	"copestone/place"
	"copestone/thrust"
	"copestone/whole"
)

// P4.4: Fall, ProveFall.

func TestFallExamples(t *testing.T) {
	c := front(brick("a", 0, 0), brick("c", 150, 80))
	wantMotion(t, "c tips", c, motion{Stones: []int{1}, Turn: -1, At: v(200, 80)})
	c = load(0, n(0), n(40), weights(-1, 2), n(0)).to(front(brick("a", 0, 0)))
	c.Low, c.High = r(1, 3), r(2, 5)
	wantMotion(t, "a slides", c, motion{Stones: []int{0}, At: whole.V{X: n(-1), Z: r(2, 5)}})
	c = load(0, n(0), n(40), weights(1, 2), n(0)).to(front(brick("a", 0, 0)))
	c.Low, c.High = r(1, 3), r(2, 5)
	wantMotion(t, "a slides to the right", c, motion{Stones: []int{0}, At: whole.V{X: n(1), Z: r(2, 5)}})
	wantNoFall(t, "three", three(), api.ErrNone)
	wantNoFall(t, "no stones", front(), api.ErrNone)
}

// wantNoFall wants an error of Fall, and nothing else.
func wantNoFall(t *testing.T, what string, c cased, want api.Errno) {
	t.Helper()
	m, e := thrust.Fall(c)
	if e != want || motionText(m) != motionText(motion{}) {
		t.Errorf("%s: %s, %v, want %v", what, motionText(m), e, want)
	}
}

func TestFallOfEachKind(t *testing.T) {
	w := weights
	wantMotion(t, "hangs", front(brick("h", 0, 500)), motion{Stones: []int{0}, At: v(0, -1)})
	c := front(brick("k", 50, 660), brick("i", 0, 580), brick("g", 0, 0), brick("h", 0, 500), brick("l", 400, 0))
	wantMotion(t, "hangs, with what lies on it", c, motion{Stones: []int{0, 1, 3}, At: v(0, -1)})
	a := front(brick("a", 0, 0))
	wantMotion(t, "lifts", load(0, n(0), n(0), n(3), w(2, 1)).to(a), motion{Stones: []int{0}, At: v(0, 1)})
	c = load(0, n(100), n(0), n(0), w(3, 1)).to(front(brick("a", 0, 0), brick("b", 0, 80)))
	wantMotion(t, "lifts, with what lies on it", c, motion{Stones: []int{0, 1}, At: v(0, 1)})
	wantMotion(t, "tips to the left", front(brick("c", -150, 80), brick("a", 0, 0)), motion{Stones: []int{0}, Turn: 1, At: v(0, 80)})
	c = front(brick("a", 0, 0), brick("c", 150, 80), brick("e", 150, 160))
	wantMotion(t, "tips, with what lies on it", c, motion{Stones: []int{1, 2}, Turn: -1, At: v(200, 80)})
	slope := frontOn(path(0, 0, 2000, 2000), put(shaped("a", path(0, 0, 10, 10, 10, 20, 0, 20)...), 0, 0, 0, place.Front))
	slope.Low, slope.High = r(1, 3), r(1, 3)
	wantMotion(t, "slides down a slope", slope, motion{Stones: []int{0}, At: whole.V{X: r(-4, 3), Z: r(-2, 3)}})
}

// What does not press at all moves as the force does.
func TestFallOffASlope(t *testing.T) {
	slope := frontOn(path(0, 0, 2000, 2000), put(shaped("a", path(0, 0, 10, 10, 10, 20, 0, 20)...), 0, 0, 0, place.Front))
	slope.Low, slope.High = n(0), r(1, 3)
	centre, weight := weightOf(slope, 0)
	down := toR(weight[1])
	away := load(0, n(4), n(5), down.Mul(n(2)), n(0)).to(slope)
	wantReason(t, "away from it", away, 0, thrust.Slides, -1, v(0, 0))
	f := slowly(away).motion
	wantMotion(t, "away from it", away, f)
	want(t, "as the force", f.At.X.Cmp(f.At.Z.Mul(n(2))), 0)
	away.High = r(1, 2)
	wantNoFall(t, "away from it, but too rough", away, api.ErrFail)
	along := load(0, n(4), toR(centre[0]), down, n(0)).to(slope)
	along.High = n(0)
	wantReason(t, "along it", along, 0, thrust.Slides, -1, v(0, 0))
	wantMotion(t, "along it", along, motion{Stones: []int{0}, At: whole.V{X: down, Z: down}})
	along.High = r(1, 1000)
	wantNoFall(t, "along it, but too rough", along, api.ErrFail)
}

// The motion of a reason that is no fall.
func TestFallErrors(t *testing.T) {
	tall := put(box("p", 200, 580), 0, 250, 0, place.Front)
	wantNoFall(t, "what lies on it lies on another one, too", front(brick("h", 0, 500), tall, brick("k", 100, 580)), api.ErrFail)
	a := front(brick("a", 0, 0))
	wantNoFall(t, "as much as it weighs", load(0, n(0), n(0), n(0), weights(1, 1)).to(a), api.ErrFail)
	wantNoFall(t, "as much as all weighs", load(0, n(0), n(0), n(0), weights(2, 1)).to(front(brick("a", 0, 0), brick("b", 0, 80))), api.ErrFail)
}

func TestFallMany(t *testing.T) {
	seen := map[api.Errno]int{}
	kinds := map[uint8]int{}
	randomCases(t, 61, 3000, func(_ *rand.Rand, c cased) {
		s := slowly(c)
		wanted := api.OK
		if s.reason.Kind == 0 {
			wanted = api.ErrNone
		} else if !slowFalls(c, s.motion) {
			wanted = api.ErrFail
		}
		seen[wanted]++
		if wanted != api.OK {
			wantNoFall(t, caseText(c), c, wanted)
			return
		}
		kinds[s.reason.Kind]++
		wantKept(t, "Fall", c, func() { wantMotion(t, caseText(c), c, s.motion) })
	})
	for e, least := range map[api.Errno]int{api.OK: 500, api.ErrNone: 500, api.ErrFail: 100} {
		if seen[e] < least {
			t.Errorf("%v: %d times", e, seen[e])
		}
	}
	for kind := thrust.Hangs; kind <= thrust.Slides; kind++ {
		if kinds[kind] < 40 {
			t.Errorf("kind %d: %d times", kind, kinds[kind])
		}
	}
}

func TestProveFall(t *testing.T) {
	// c is upon b, which tips from a; d stands for itself, in both skins.
	c := front(brick("a", 0, 0), brick("b", 150, 80), brick("c", 150, 160), put(box("d", 9, 9), 0, -500, 0, place.Through), put(box("e", 9, 9), 0, 0, 0, place.Back))
	both := []int{1, 2}
	for what, x := range map[string]struct {
		m  motion
		ok bool
	}{
		"about the end of a":             {motion{both, -1, v(200, 80)}, true},
		"about a point below":            {motion{both, -1, v(200, -9)}, false},
		"about a point in a":             {motion{both, -1, v(190, 80)}, false},
		"about a point over b":           {motion{both, -1, v(201, 81)}, true},
		"about a point above":            {motion{both, -1, v(200, 81)}, false},
		"about their centre":             {motion{both, -1, v(250, 80)}, false},
		"the other way":                  {motion{both, 1, v(200, 80)}, false},
		"by 2":                           {motion{both, -2, v(200, 80)}, false},
		"by far":                         {motion{both, far[1], v(200, 80)}, false},
		"no turn":                        {motion{both, 0, v(200, 80)}, false},
		"down":                           {motion{both, 0, v(0, -1)}, false},
		"up":                             {motion{both, 0, v(0, 1)}, false},
		"to the right":                   {motion{both, 0, v(1, 0)}, false},
		"no stones":                      {motion{nil, -1, v(200, 80)}, false},
		"without what lies on it":        {motion{[]int{1}, -1, v(200, 80)}, false},
		"only what lies on it":           {motion{[]int{2}, -1, v(200, 160)}, false},
		"with all below, in balance":     {motion{[]int{0, 1, 2}, -1, v(200, 0)}, false},
		"with all below, too far":        {motion{[]int{0, 1, 2}, -1, v(199, 0)}, false},
		"falling numbers":                {motion{[]int{2, 1}, -1, v(200, 80)}, false},
		"a number twice":                 {motion{[]int{1, 1, 2}, -1, v(200, 80)}, false},
		"a stone of the other skin":      {motion{[]int{1, 2, 4}, -1, v(200, 80)}, false},
		"no stone":                       {motion{[]int{1, 2, 5}, -1, v(200, 80)}, false},
		"no stone before":                {motion{[]int{-1, 1, 2}, -1, v(200, 80)}, false},
		"with one that is lifted":        {motion{[]int{1, 2, 3}, -1, v(200, 80)}, true},
		"with one that is lifted, alone": {motion{[]int{3}, -1, v(200, 80)}, false},
		"all that stand":                 {motion{[]int{3}, -1, v(-491, 0)}, false},
	} {
		want(t, what, thrust.ProveFall(c, x.m), x.ok)
	}
	for _, i := range far {
		want(t, "far numbers", thrust.ProveFall(c, motion{[]int{i}, -1, v(200, 80)}), false)
		want(t, "far numbers behind", thrust.ProveFall(c, motion{[]int{1, 2, i}, -1, v(200, 80)}), false)
	}
	want(t, "no case", thrust.ProveFall(front(), motion{[]int{0}, -1, v(200, 80)}), false)
}

// Work that is 0 is no fall, nor is what goes less steeply than friction asks.
func TestProveFallLimits(t *testing.T) {
	c := front(brick("a", 0, 0), brick("c", 100, 80))
	want(t, "just upon the end", thrust.ProveFall(c, motion{[]int{1}, -1, v(200, 80)}), false)
	c = load(0, n(0), n(0), weights(1, 4), n(0)).to(front(brick("a", 0, 0)))
	c.Low, c.High = n(0), r(1, 5)
	for _, x := range []struct {
		at whole.V
		ok bool
	}{
		{whole.V{X: n(1), Z: r(1, 5)}, true},
		{whole.V{X: n(5), Z: n(1)}, true},
		{whole.V{X: n(1), Z: r(6, 25)}, true},
		{whole.V{X: n(1), Z: r(1, 4)}, false},
		{whole.V{X: n(1), Z: r(199, 1000)}, false},
		{whole.V{X: n(-1), Z: r(1, 5)}, false},
		{whole.V{}, false},
	} {
		want(t, x.at.Text(), thrust.ProveFall(c, motion{[]int{0}, 0, x.at}), x.ok)
	}
}

// randomMotion returns one about a corner, a contact or a point near, or a way.
func randomMotion(x *rand.Rand, c cased) motion {
	m := motion{Turn: pick(x, -1, 1, -1, 1, 0)}
	all := stonesOf(c)
	if len(all) == 0 {
		return m
	}
	s := slowOf(c)
	m.Stones = s.upon(pick(x, all...))
	if x.Intn(6) == 0 {
		m.Stones = pick(x, all, []int{pick(x, all...)}, append(slices.Clone(m.Stones), x.Intn(len(c.Wall.Stones))))
	}
	if m.Turn == 0 {
		m.At = whole.V{X: randomRatio(x, 5), Z: randomRatio(x, 5)}
		return m
	}
	m.At = v(int64(x.Intn(30)), int64(x.Intn(20)))
	if spots := s.spots(m.Stones[0]); len(spots) > 0 && x.Intn(4) > 0 {
		m.At = pick(x, spots...).at.v()
	}
	return m
}

// P4.8 as well: where a motion is a fall, no forces are right.
func TestProveFallMany(t *testing.T) {
	seen := map[bool]int{}
	randomCases(t, 62, 1500, func(x *rand.Rand, c cased) {
		l, _, e := thrust.Stand(c)
		for range 6 {
			m := randomMotion(x, c)
			what := caseText(c) + motionText(m)
			var got bool
			wantKept(t, "ProveFall", c, func() { got = thrust.ProveFall(c, m) })
			want(t, what, got, slowFalls(c, m))
			seen[got]++
			if got && e == api.OK {
				t.Errorf("%s: a fall, but %v stands", what, textOf(l))
			}
		}
	})
	if seen[true] < 400 || seen[false] < 2000 {
		t.Errorf("%v", seen)
	}
}

// P4.8: no forces hold what Fall shows to fall, those of a case with more friction neither.
func TestFallOrStand(t *testing.T) {
	tried := 0
	randomCases(t, 63, 1500, func(x *rand.Rand, c cased) {
		m, e := thrust.Fall(c)
		if e != api.OK {
			return
		}
		want(t, caseText(c), thrust.ProveFall(c, m), true)
		rough := c
		rough.Low, rough.High, rough.Pin = n(10), n(10), api.MaxPin
		if l, _, e := thrust.Stand(rough); e == api.OK {
			tried++
			want(t, caseText(c), thrust.Prove(c, l), false)
		}
	})
	if tried < 100 {
		t.Errorf("%d tries", tried)
	}
}

// P4.10: what falls falls with less friction, too.
func TestFallOfSmootherStones(t *testing.T) {
	randomCases(t, 64, 1500, func(x *rand.Rand, c cased) {
		m, e := thrust.Fall(c)
		if e != api.OK {
			return
		}
		for _, high := range []whole.R{c.Low, c.Low.Add(c.High).Mul(r(1, 2)), c.High} {
			less := c
			less.High = high
			want(t, fmt.Sprint(caseText(c), high.Text()), thrust.ProveFall(less, m), true)
		}
	})
}
