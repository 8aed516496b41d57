package hill_test

import (
	"fmt"
	"math/big"
	"math/rand"
	"testing"

	"copestone/api"
	"copestone/hill"
	"copestone/stone"
	"copestone/whole"
)

// P8.1: Check, Ground, Bounds.

func TestCheck(t *testing.T) {
	for what, l := range badProfiles() {
		wantErr(t, what, hill.Check(l), api.ErrArg)
	}
	for what, l := range map[string][]point{
		"the example": slope(), "two points": path(0, 0, 1, 0), "40 points": comb(api.MaxGround, 10, 0, 5), "as far as may be": path(-100000, -100000, 0, 100000, 100000, -100000),
		"at the left": path(-100000, 100000, -99999, -100000), "at the right": path(99999, 7, 100000, 100000), "level": flat(-100000),
	} {
		wantErr(t, what, hill.Check(l), api.OK)
	}
}

func wantGround(t *testing.T, l []point, x int, text string) {
	t.Helper()
	wantRatio(t, fmt.Sprint(l, x), ok[whole.R](t)(hill.Ground(l, x)), text)
}

func TestGround(t *testing.T) {
	for x, text := range map[int]string{0: "0", 1: "0", 999: "0", 1000: "0", 1001: "1/5", 1500: "100", 2999: "1999/5", 3000: "400", 3001: "400", 4000: "400"} {
		wantGround(t, slope(), x, text)
	}
	for x, text := range map[int]string{-7: "-4", -6: "-2/3", -5: "8/3", -4: "6", -3: "13/4", -1: "-9/4", 0: "-5", 2: "-5", 3: "-5", 4: "-10/7", 9: "115/7", 10: "20"} {
		wantGround(t, steep(), x, text)
	}
	wantGround(t, path(-100000, -100000, 100000, 100000), 77777, "77777")
	wantGround(t, path(-100000, 100000, 100000, -99999), 99999, "-19999600001/200000")
	wantGround(t, path(-100000, -100000, 99999, 100000), -99999, "-19999700000/199999")
}

func TestGroundOpen(t *testing.T) {
	for _, x := range append([]int{-8, 11, -100, 100, -api.MaxFar, api.MaxFar, -api.MaxFar - 1}, far...) {
		g, e := hill.Ground(steep(), x)
		wantErr(t, fmt.Sprint(x), e, api.ErrOpen)
		wantRatio(t, fmt.Sprint(x), g, "0")
	}
}

func TestGroundMany(t *testing.T) {
	profiles(t, 81, 1000, func(x *rand.Rand, l []point) {
		for range 5 {
			least, most := ends(l)
			at := pick(x, pick(x, l...).X, upTo(x, least, most), upTo(x, least, most))
			wantGround(t, l, at, textOf(groundOf(l, at)))
		}
	})
}

func wantBounds(t *testing.T, l []point, a, b int, low, high string) {
	t.Helper()
	what := fmt.Sprint(l, a, b)
	least, most, e := hill.Bounds(l, a, b)
	wantErr(t, what, e, api.OK)
	wantRatio(t, what+": least", least, low)
	wantRatio(t, what+": most", most, high)
}

func TestBounds(t *testing.T) {
	wantBounds(t, slope(), 500, 2000, "0", "200")
	wantBounds(t, slope(), 0, 4000, "0", "400")
	wantBounds(t, slope(), 0, 1000, "0", "0")
	wantBounds(t, slope(), 3000, 4000, "400", "400")
	wantBounds(t, slope(), 1001, 1002, "1/5", "2/5")
	wantBounds(t, steep(), -7, 10, "-5", "20")
	wantBounds(t, steep(), -7, 0, "-5", "6") // the least at the end
	wantBounds(t, steep(), -7, -1, "-4", "6")
	wantBounds(t, steep(), -4, -1, "-9/4", "6")
	wantBounds(t, steep(), -5, -3, "8/3", "6") // the greatest in between
	wantBounds(t, steep(), -1, 4, "-5", "-10/7")
	wantBounds(t, steep(), 1, 2, "-5", "-5")
	wantBounds(t, flat(-100000), -100000, 100000, "-100000", "-100000")
}

func TestBoundsMany(t *testing.T) {
	profiles(t, 82, 2000, func(x *rand.Rand, l []point) {
		a, b := randomStretch(x, l)
		least, most := boundsOf(l, a, b)
		wantBounds(t, l, a, b, textOf(least), textOf(most))
		// No ground in between is beyond them.
		for range 3 {
			g := groundOf(l, upTo(x, a, b))
			if g.Cmp(least) < 0 || g.Cmp(most) > 0 {
				t.Errorf("%v from %d to %d: %v", l, a, b, g)
			}
		}
	})
}

// P8.2: Areas.

func wantAreas(t *testing.T, l []point, a, b, z int, up, down string) {
	t.Helper()
	what := fmt.Sprint(l, a, b, z)
	above, below, e := hill.Areas(l, a, b, z)
	wantErr(t, what, e, api.OK)
	wantRatio(t, what+": above", above, up)
	wantRatio(t, what+": below", below, down)
	wantRatio(t, what+": pool", ok[whole.R](t)(hill.Pool(l, a, b, z)), down)
}

func TestAreas(t *testing.T) {
	wantAreas(t, slope(), 0, 2000, 100, "25000", "125000")
	wantAreas(t, slope(), 0, 2000, 0, "100000", "0")
	wantAreas(t, slope(), 0, 2000, 200, "0", "300000")
	wantAreas(t, slope(), 0, 2000, -1, "102000", "0")
	wantAreas(t, slope(), 0, 2000, 201, "0", "302000")
	wantAreas(t, slope(), 1000, 1001, 0, "1/10", "0")
	wantAreas(t, slope(), 2999, 3001, 400, "0", "1/10")
	wantAreas(t, slope(), 3000, 4000, 400, "0", "0")
	wantAreas(t, path(0, 0, 3, 2), 0, 3, 1, "3/4", "3/4")
	wantAreas(t, path(0, 0, 3, 7), 1, 2, 3, "25/42", "2/21")
	wantAreas(t, path(0, 7, 3, 0), 1, 2, 3, "25/42", "2/21") // falling
	wantAreas(t, path(0, -5, 2, 5, 4, -5), 0, 4, 0, "5", "5")
	wantAreas(t, flat(100000), -100000, 100000, -100000, "40000000000", "0")
	wantAreas(t, flat(-100000), -100000, 100000, 100000, "0", "40000000000")
	wantAreas(t, comb(40, 2500, -100000, 100000), 0, 97500, 0, "2437500000", "2437500000")
}

func TestAreasMany(t *testing.T) {
	both := 0
	profiles(t, 83, 3000, func(x *rand.Rand, l []point) {
		a, b := randomStretch(x, l)
		z := pick(x, pick(x, l...).Z, upTo(x, -8, 8), upTo(x, -500, 500), upTo(x, -api.MaxFar, api.MaxFar), floorOf(groundOf(l, a)))
		above, below := areasOf(l, a, b, z)
		wantKept(t, "Areas", l, nil, func() { wantAreas(t, l, a, b, z, textOf(above), textOf(below)) })
		if above.Sign() > 0 && below.Sign() > 0 {
			both++
		}
	})
	if both < 500 {
		t.Errorf("%d stretches with ground above and below", both)
	}
}

// P8.8: the area above less the area below is the integral of g - z; areas over
// neighbouring stretches add up.

func integralOf(l []point, a, b int) *big.Rat {
	sum := new(big.Rat)
	xs := turns(l, a, b)
	for i := range xs[1:] {
		mean := quotient(plus(groundOf(l, xs[i]), groundOf(l, xs[i+1])), integer(2))
		sum.Add(sum, times(mean, integer(xs[i+1]-xs[i])))
	}
	return sum
}

func TestAreasLess(t *testing.T) {
	profiles(t, 84, 1000, func(x *rand.Rand, l []point) {
		a, b := randomStretch(x, l)
		z := pick(x, pick(x, l...).Z, upTo(x, -8, 8), upTo(x, -api.MaxFar, api.MaxFar))
		above, below, e := hill.Areas(l, a, b, z)
		wantErr(t, fmt.Sprint(l, a, b, z), e, api.OK)
		integral := minus(integralOf(l, a, b), integer(z*(b-a)))
		wantRatio(t, fmt.Sprint(l, a, b, z), above.Sub(below), textOf(integral))
		if above.Sign() < 0 || below.Sign() < 0 {
			t.Errorf("%v from %d to %d at %d: %v, %v", l, a, b, z, above.Text(), below.Text())
		}
	})
}

func TestAreasAdded(t *testing.T) {
	profiles(t, 85, 1000, func(x *rand.Rand, l []point) {
		a, b := randomStretch(x, l)
		if b-a < 2 {
			return
		}
		c, z := upTo(x, a+1, b-1), pick(x, pick(x, l...).Z, upTo(x, -8, 8))
		what := fmt.Sprint(l, a, c, b, z)
		above, below, e := hill.Areas(l, a, b, z)
		wantErr(t, what, e, api.OK)
		above1, below1, _ := hill.Areas(l, a, c, z)
		above2, below2, _ := hill.Areas(l, c, b, z)
		wantRatio(t, what, above1.Add(above2), above.Text())
		wantRatio(t, what, below1.Add(below2), below.Text())
	})
}

// P8.7: Pool, Flood.

func TestPool(t *testing.T) {
	pool := func(a, b, z int, text string) {
		t.Helper()
		wantRatio(t, fmt.Sprint(a, b, z), ok[whole.R](t)(hill.Pool(slope(), a, b, z)), text)
	}
	pool(0, 2000, 100, "125000")
	pool(0, 2000, 83, "200445/2")
	pool(0, 4000, 0, "0")
	pool(0, 4000, -api.MaxFar, "0")
	pool(0, 4000, 400, "800000")
	pool(0, 4000, api.MaxFar, "399200000")
	pool(3000, 4000, 401, "1000")
}

func wantFlood(t *testing.T, l []point, a, b int, area int64, level int) {
	t.Helper()
	want(t, fmt.Sprint(l, a, b, area), ok[int](t)(hill.Flood(l, a, b, area)), level)
}

func TestFlood(t *testing.T) {
	wantFlood(t, slope(), 0, 2000, 100000, 83)
	wantFlood(t, slope(), 0, 2000, 1, 1)
	wantFlood(t, slope(), 0, 1000, 1000, 1) // just enough
	wantFlood(t, slope(), 0, 1000, 1001, 2)
	wantFlood(t, slope(), 0, 1000, 999, 1)
	wantFlood(t, slope(), 3000, 4000, 1, 401)
	wantFlood(t, path(0, 0, 10, 20), 0, 1, 1, 2) // 1/4 at the level 1, 1 at 2
	wantFlood(t, path(0, -7, 5, -7), 0, 5, 5, -6)
	wantFlood(t, path(0, -7, 5, -7), 0, 5, 35, 0)
	wantFlood(t, path(0, -7, 5, -7), 0, 5, 36, 1)
	wantFlood(t, flat(-100000), -100000, 100000, 1, -99999)
	wantFlood(t, flat(-100000), -100000, 100000, 40000000000, 100000) // all there can be
	wantFlood(t, flat(-100000), -100000, 100000, 39999800000, 99999)
	wantFlood(t, flat(-100000), -100000, 100000, 39999800001, 100000)
	wantFlood(t, flat(99999), 0, 1, 1, 100000)
	wantFlood(t, comb(40, 2500, -100000, 100000), 0, 97500, 2437500000, 0)
}

func TestFloodVoid(t *testing.T) {
	for _, c := range []struct {
		l    []point
		a, b int
		area int64
	}{
		{flat(-100000), -100000, 100000, 40000000001}, {flat(-100000), -100000, 100000, 1000000000000}, {flat(-100000), 0, 1, 200001}, {flat(100000), 0, 100, 1}, {flat(99999), 0, 1, 2},
		{path(0, 99999, 1, 100000), 0, 1, 1}, {slope(), 0, 4000, 399200001},
	} {
		z, e := hill.Flood(c.l, c.a, c.b, c.area)
		wantErr(t, fmt.Sprint(c), e, api.ErrVoid)
		want(t, fmt.Sprint(c), z, 0)
	}
	wantFlood(t, slope(), 0, 4000, 399200000, 100000)
	wantFlood(t, flat(-100000), 0, 1, 200000, 100000)
}

func TestFloodMany(t *testing.T) {
	x := rand.New(rand.NewSource(86))
	for range 1000 {
		l := randomProfile(x, 10, 8)
		a, b := randomStretch(x, l)
		area := upTo(x, 1, pick(x, 3, 20, 200))
		wantFlood(t, l, a, b, int64(area), floodOf(l, a, b, area))
	}
}

// P8.13: the pool grows with the level; Flood's pool has the area, and with one
// millimetre less it has not.
func TestFloods(t *testing.T) {
	reached, void := 0, 0
	profiles(t, 87, 400, func(x *rand.Rand, l []point) {
		a, b := randomStretch(x, l)
		area := 1 + x.Int63n(pick(x, int64(100), 100000, 10000000000, 1000000000000))
		what := fmt.Sprint(l, a, b, area)
		pool := func(z int) int {
			return ok[whole.R](t)(hill.Pool(l, a, b, z)).Cmp(whole.Of(area))
		}
		z, e := hill.Flood(l, a, b, area)
		if e == api.ErrVoid {
			void++
			want(t, what, pool(api.MaxFar), -1)
			return
		}
		reached++
		wantErr(t, what, e, api.OK)
		if pool(z) < 0 || z > -api.MaxFar && pool(z-1) >= 0 {
			t.Errorf("%s: the level %d", what, z)
		}
	})
	if reached < 100 || void < 50 {
		t.Errorf("%d floods, %d void", reached, void)
	}
}

func TestPoolGrows(t *testing.T) {
	profiles(t, 88, 300, func(x *rand.Rand, l []point) {
		a, b := randomStretch(x, l)
		levels := rising(x, 5, -api.MaxFar, api.MaxFar)
		for i := range levels[1:] {
			less, more := ok[whole.R](t)(hill.Pool(l, a, b, levels[i])), ok[whole.R](t)(hill.Pool(l, a, b, levels[i+1]))
			if less.Cmp(more) > 0 || more.Sign() > 0 && less.Cmp(more) == 0 {
				t.Errorf("%v from %d to %d: %s at %d, %s at %d", l, a, b, less.Text(), levels[i], more.Text(), levels[i+1])
			}
		}
	})
}

// The profile is a list of any points: no call keeps it, or changes it.
func TestProfileKept(t *testing.T) {
	l := []stone.Point(steep())
	wantKept(t, "calls with stretches", l, nil, func() {
		hill.Check(l)
		hill.Ground(l, 1)
		hill.Bounds(l, -5, 9)
		hill.Areas(l, -5, 9, 2)
		hill.Flood(l, -5, 9, 20)
	})
}
