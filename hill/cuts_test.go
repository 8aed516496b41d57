package hill_test

import (
	"fmt"
	"math/rand"
	"slices"
	"testing"

	"copestone/api"
	"copestone/hill"
	"copestone/whole"
)

// P8.5: Best.

// ditch has what Best is asked for, but the profile.
type ditch struct{ a, b, unit, least, most, depth int }

func best(l []point, d ditch) ([]int, whole.R, api.Errno) {
	return hill.Best(l, d.a, d.b, d.unit, d.least, d.most, d.depth)
}

func wantBest(t *testing.T, l []point, d ditch, cost string, breaks ...int) {
	t.Helper()
	what := fmt.Sprint(l, d)
	got, c, e := best(l, d)
	wantErr(t, what, e, api.OK)
	wantList(t, what, got, breaks...)
	wantRatio(t, what, c, cost)
}

func TestBest(t *testing.T) {
	wantBest(t, slope(), ditch{0, 4000, 1000, 1000, 2, 50}, "600000", 0, 2000, 4000)
	wantBest(t, slope(), ditch{0, 4000, 1000, 1000, 1, 50}, "1000000", 0, 4000)
	wantBest(t, slope(), ditch{0, 4000, 1000, 1000, 3, 50}, "400000", 0, 2000, 3000, 4000)
	wantBest(t, slope(), ditch{0, 4000, 1000, 1000, 60, 50}, "400000", 0, 2000, 3000, 4000) // 4 treads are no better
	wantBest(t, slope(), ditch{0, 4000, 1000, 1001, 60, 50}, "600000", 0, 2000, 4000)
	wantBest(t, slope(), ditch{0, 4000, 1000, 2001, 60, 50}, "1000000", 0, 4000)
	wantBest(t, slope(), ditch{0, 4000, 4000, 1, 60, 0}, "800000", 0, 4000)
	wantBest(t, slope(), ditch{0, 1000, 100, 1, 60, 7}, "7000", 0, 1000) // as good as any other
	wantBest(t, slope(), ditch{1500, 2500, 500, 1, 60, 0}, "50000", 1500, 2000, 2500)
	wantBest(t, slope(), ditch{0, 4000, 1000, 4000, 60, 3000}, "12800000", 0, 4000)
}

// Of equal ones the fewest treads, then the least breaks.
func TestBestEqual(t *testing.T) {
	even := path(0, 0, 4, 8)
	wantBest(t, even, ditch{0, 4, 1, 1, 2, 0}, "8", 0, 2, 4)
	wantBest(t, even, ditch{0, 4, 1, 1, 3, 0}, "6", 0, 1, 2, 4)
	wantBest(t, path(0, 0, 5, 10), ditch{0, 5, 1, 1, 2, 0}, "13", 0, 2, 5)
	wantBest(t, path(0, 10, 5, 0), ditch{0, 5, 1, 1, 2, 0}, "13", 0, 2, 5)
	wantBest(t, path(0, 0, 7, 14), ditch{0, 7, 1, 2, 3, 0}, "17", 0, 2, 4, 7)
	wantBest(t, path(0, 5, 1, 5, 2, 0, 3, 5, 4, 5), ditch{0, 4, 1, 1, 60, 0}, "5", 0, 1, 3, 4)
	wantBest(t, flat(3), ditch{-60, 0, 1, 1, 60, 3}, "180", -60, 0)
	// The same level in all treads but the last one, which is higher by a hair.
	wantBest(t, path(0, 0, 58, 0, 59, 1, 60, 1), ditch{0, 60, 1, 1, 60, 0}, "1/2", 0, 59, 60)
}

// The ground is not whole, and the levels are below 0.
func TestBestNotWhole(t *testing.T) {
	wantBest(t, steep(), ditch{-6, -2, 1, 1, 60, 0}, "47/6", -6, -5, -4, -3, -2)
	wantBest(t, steep(), ditch{4, 10, 2, 1, 2, 1}, "320/7", 4, 6, 10)
	wantBest(t, path(0, 0, 3, 1), ditch{0, 3, 1, 1, 60, 0}, "3/2", 0, 3)
}

func TestBestMost(t *testing.T) {
	wantBest(t, path(0, 0, 60, 60), ditch{0, 60, 1, 1, 60, 0}, "30", every(0, 60, 1)...)
	wantBest(t, path(0, 0, 60, 60), ditch{0, 60, 1, 1, 59, 0}, "31", append(every(0, 58, 1), 60)...)
	wantBest(t, path(0, 0, 60, 60), ditch{0, 60, 1, 2, 60, 0}, "60", every(0, 60, 2)...)
	breaks, cost, e := best(comb(40, 2500, -100000, 100000), ditch{0, 97500, 1625, 1, 60, 3000})
	wantErr(t, "as great as may be", e, api.OK)
	wantRatio(t, "as great as may be", cost, textOf(costOf(comb(40, 2500, -100000, 100000), breaks, 3000)))
	wantBest(t, flat(-100000), ditch{-100000, 100000, 200000, 200000, 1, 3000}, "600000000", -100000, 100000)
	wantBest(t, flat(100000), ditch{-100000, 100000, 10000, 1, 60, 0}, "0", -100000, 100000)
}

func randomDitch(x *rand.Rand, l []point, units int) ditch {
	least, most := ends(l)
	d := ditch{a: upTo(x, least, most-1), most: pick(x, 1, 2, 3, 4, 60), depth: pick(x, 0, 1, 50)}
	n := upTo(x, 1, min(units, most-d.a))
	d.unit = upTo(x, 1, (most-d.a)/n)
	d.b = d.a + n*d.unit
	d.least = upTo(x, 1, min(d.b-d.a, pick(x, 1, d.unit+1, 3*d.unit)))
	return d
}

// ditches calls a test with many profiles, and stretches of at most so many units.
// Some grounds take few heights only, so that many cuts are equal.
func ditches(t *testing.T, seed int64, count, units int, test func(x *rand.Rand, l []point, d ditch)) {
	t.Helper()
	profiles(t, seed, count, func(x *rand.Rand, l []point) {
		if x.Intn(2) == 0 {
			for i := range l {
				l[i].Z = upTo(x, -1, 2)
			}
		}
		test(x, l, randomDitch(x, l, units))
	})
}

func TestBestMany(t *testing.T) {
	equal, long := 0, 0
	ditches(t, 101, 1500, 9, func(x *rand.Rand, l []point, d ditch) {
		breaks, cost, n := bestOf(l, d.a, d.b, d.unit, d.least, d.most, d.depth)
		wantKept(t, "Best", l, nil, func() { wantBest(t, l, d, textOf(cost), breaks...) })
		if n > 1 {
			equal++
		}
		if len(breaks) > 3 {
			long++
		}
	})
	if equal < 300 || long < 200 {
		t.Errorf("%d ditches with equal cuts, %d with more than two treads", equal, long)
	}
}

// P8.11: no cuts cost less; with more treads, or shorter ones, the cost does not
// grow.

func areCuts(d ditch, breaks []int) bool {
	for i := range breaks[1:] {
		if wide := breaks[i+1] - breaks[i]; wide < d.least || wide%d.unit != 0 {
			return false
		}
	}
	return breaks[0] == d.a && breaks[len(breaks)-1] == d.b && len(breaks)-1 <= d.most
}

// randomCuts returns some cuts, if there are.
func randomCuts(x *rand.Rand, d ditch) []int {
	cuts := []int{d.a}
	for cut := d.a + d.unit; cut < d.b; cut += d.unit {
		if x.Intn(3) == 0 && len(cuts) < d.most && cut-cuts[len(cuts)-1] >= d.least && d.b-cut >= d.least {
			cuts = append(cuts, cut)
		}
	}
	return append(cuts, d.b)
}

func TestBestNoneLess(t *testing.T) {
	ditches(t, 102, 150, api.MaxTreads, func(x *rand.Rand, l []point, d ditch) {
		breaks, cost, e := best(l, d)
		wantErr(t, fmt.Sprint(l, d), e, api.OK)
		wantRatio(t, fmt.Sprint(l, d), cost, textOf(costOf(l, breaks, d.depth)))
		want(t, fmt.Sprint(l, d, breaks), areCuts(d, breaks), true)
		for range 5 {
			cuts := randomCuts(x, d)
			c := costOf(l, cuts, d.depth).Cmp(rat(cost))
			if c < 0 || c == 0 && (len(cuts) < len(breaks) || len(cuts) == len(breaks) && slices.Compare(cuts, breaks) < 0) {
				t.Errorf("%v, %v: %v, but %v are better", l, d, breaks, cuts)
			}
		}
	})
}

func TestBestAllowed(t *testing.T) {
	less := 0
	ditches(t, 103, 150, api.MaxTreads, func(x *rand.Rand, l []point, d ditch) {
		_, cost, e := best(l, d)
		wantErr(t, fmt.Sprint(l, d), e, api.OK)
		wider := d
		wider.most, wider.least = min(d.most+x.Intn(3), api.MaxTreads), upTo(x, 1, d.least)
		_, c, e := best(l, wider)
		wantErr(t, fmt.Sprint(l, wider), e, api.OK)
		if c.Cmp(cost) > 0 {
			t.Errorf("%v, %v: %s, but %v: %s", l, d, cost.Text(), wider, c.Text())
		}
		if c.Cmp(cost) < 0 {
			less++
		}
	})
	if less < 20 {
		t.Errorf("%d ditches that cost less", less)
	}
}

func TestBestNew(t *testing.T) {
	d := ditch{0, 4000, 1000, 1000, 2, 50}
	breaks, _, _ := best(slope(), d)
	clear(breaks)
	wantBest(t, slope(), d, "600000", 0, 2000, 4000)
}
