package hill_test

import (
	"fmt"
	"math/rand"
	"slices"
	"testing"

	"copestone/api"
	"copestone/hill"
	"copestone/whole"
)

// P8.3: Feet, Heads.

func wantFeet(t *testing.T, l []point, breaks []int, depth, rise int, levels ...int) {
	t.Helper()
	wantList(t, fmt.Sprint("feet: ", l, breaks, depth, rise), ok[[]int](t)(hill.Feet(l, breaks, depth, rise)), levels...)
}

func wantHeads(t *testing.T, l []point, breaks []int, height, rise int, levels ...int) {
	t.Helper()
	wantList(t, fmt.Sprint("heads: ", l, breaks, height, rise), ok[[]int](t)(hill.Heads(l, breaks, height, rise)), levels...)
}

func TestFeet(t *testing.T) {
	thousands := every(0, 4000, 1000)
	wantFeet(t, slope(), thousands, 50, 150, -50, -50, 100, 250)
	wantFeet(t, slope(), thousands, 50, 200, -50, -50, 150, 350)
	wantFeet(t, slope(), thousands, 50, 199, -50, -50, 149, 348)
	wantFeet(t, slope(), thousands, 50, 0, -50, -50, -50, -50)
	wantFeet(t, slope(), thousands, 0, 3000, 0, 0, 200, 400)
	wantFeet(t, slope(), thousands, 3000, 3000, -3000, -3000, -2800, -2600)
	wantFeet(t, slope(), []int{0, 4000}, 0, 0, 0)
	wantFeet(t, slope(), []int{1500, 2500}, 7, 0, 93) // not all of the profile
	wantFeet(t, slope(), []int{1001, 1002, 1006}, 0, 9, 0, 0)
	wantFeet(t, path(0, 400, 4000, 0), thousands, 0, 60, 180, 120, 60, 0) // from the right
	wantFeet(t, path(0, 900, 10, 0, 20, 900), every(0, 20, 4), 0, 100, 200, 100, 0, 100, 200)
	wantFeet(t, path(0, 0, 10, 900, 20, 0), every(0, 20, 4), 0, 100, 0, 100, 200, 100, 0)
}

// The ends of treads count, points in between, and ground that is not whole; below 0
// as well.
func TestFeetDeep(t *testing.T) {
	wantFeet(t, steep(), []int{-7, -4, 0, 3, 10}, 0, 99, -4, -5, -5, -5)
	wantFeet(t, steep(), []int{-6, -5, -4, -3, -1}, 0, 99, -1, 2, 3, -3)
	wantFeet(t, steep(), []int{-6, 10}, 1, 99, -6)
	wantFeet(t, steep(), []int{4, 5, 9}, 0, 99, -2, 2)
	wantFeet(t, steep(), []int{4, 5, 9}, 0, 3, -2, 1)
	wantFeet(t, flat(-api.MaxFar), []int{0, 1}, api.MaxHigh, 0, -103000)
}

func TestHeads(t *testing.T) {
	thousands := every(0, 4000, 1000)
	wantHeads(t, slope(), thousands, 1000, 150, 1100, 1250, 1400, 1400)
	wantHeads(t, slope(), thousands, 1000, 200, 1000, 1200, 1400, 1400)
	wantHeads(t, slope(), thousands, 0, 0, 400, 400, 400, 400)
	wantHeads(t, slope(), thousands, 3000, 3000, 3000, 3200, 3400, 3400)
	wantHeads(t, slope(), []int{1500, 2500}, 7, 0, 307)
	wantHeads(t, slope(), []int{1001, 1002, 1006}, 0, 9, 1, 2)
	wantHeads(t, path(0, 400, 4000, 0), thousands, 0, 60, 400, 340, 280, 220)
	wantHeads(t, path(0, 0, 10, 900, 20, 0), every(0, 20, 4), 0, 100, 700, 800, 900, 800, 700)
	wantHeads(t, path(0, 900, 10, 0, 20, 900), every(0, 20, 4), 0, 100, 900, 800, 700, 800, 900)
	wantHeads(t, steep(), []int{-7, -4, 0, 3, 10}, 0, 99, 6, 6, -5, 20)
	wantHeads(t, steep(), []int{-6, -5, -3, -1}, 0, 99, 3, 6, 4)
	wantHeads(t, steep(), []int{2, 4}, 1, 99, 0)
	wantHeads(t, flat(api.MaxFar), []int{0, 1}, api.MaxHigh, 0, 103000)
}

func TestTreadsMost(t *testing.T) {
	l := path(0, 0, 60, 6000)
	breaks := every(0, 60, 1)
	want(t, "60 treads", len(ok[[]int](t)(hill.Feet(l, breaks, 0, 100))), api.MaxTreads)
	for i, level := range ok[[]int](t)(hill.Feet(l, breaks, 5, 99)) {
		want(t, fmt.Sprint("the foot ", i), level, 99*i-5)
	}
	for i, level := range ok[[]int](t)(hill.Heads(l, breaks, 5, 99)) {
		want(t, fmt.Sprint("the head ", i), level, 6005-99*(59-i))
	}
}

func TestLevelsMany(t *testing.T) {
	lowered, raised := 0, 0
	profiles(t, 91, 1500, func(x *rand.Rand, l []point) {
		breaks := randomBreaks(x, l, pick(x, 4, 10, api.MaxTreads))
		n, rise := pick(x, 0, 1, 50, api.MaxHigh), pick(x, 0, 1, 2, 5, 100, api.MaxHigh)
		feet, heads := feetOf(l, breaks, n, rise), headsOf(l, breaks, n, rise)
		wantKept(t, "levels", l, breaks, func() {
			wantFeet(t, l, breaks, n, rise, feet...)
			wantHeads(t, l, breaks, n, rise, heads...)
		})
		if !slices.Equal(feet, feetOf(l, breaks, n, 200000)) {
			lowered++
		}
		if !slices.Equal(heads, headsOf(l, breaks, n, 200000)) {
			raised++
		}
	})
	if lowered < 200 || raised < 200 {
		t.Errorf("%d lists of feet with lowered ones, %d of heads with raised ones", lowered, raised)
	}
}

// P8.9: heads are feet upside down; feet move with the profile.

func negated(l []int) []int {
	var opposites []int
	for _, n := range l {
		opposites = append(opposites, -n)
	}
	return opposites
}

func TestUpsideDown(t *testing.T) {
	profiles(t, 92, 700, func(x *rand.Rand, l []point) {
		breaks := randomBreaks(x, l, 12)
		n, rise := upTo(x, 0, api.MaxHigh), upTo(x, 0, pick(x, 5, api.MaxHigh))
		down := slices.Clone(l)
		for i, p := range l {
			down[i].Z = -p.Z
		}
		feet := ok[[]int](t)(hill.Feet(down, breaks, n, rise))
		wantHeads(t, l, breaks, n, rise, negated(feet)...)
	})
}

func TestMoved(t *testing.T) {
	profiles(t, 93, 700, func(x *rand.Rand, l []point) {
		breaks := randomBreaks(x, l, 12)
		n, rise := upTo(x, 0, api.MaxHigh), upTo(x, 0, pick(x, 5, api.MaxHigh))
		feet := ok[[]int](t)(hill.Feet(l, breaks, n, rise))
		least, most := ends(l)
		dx, dz := upTo(x, -api.MaxFar-least, api.MaxFar-most), upTo(x, -500, 500)
		moved := slices.Clone(l)
		for i := range moved {
			moved[i].X += dx
			moved[i].Z += dz
		}
		if hill.Check(moved) != api.OK { // too high
			return
		}
		for i := range breaks {
			breaks[i] += dx
		}
		for i := range feet {
			feet[i] += dz
		}
		wantFeet(t, moved, breaks, n, rise, feet...)
	})
}

// P8.10: feet have both properties; if any of them are made higher by 1, they have
// not.
func TestGreatest(t *testing.T) {
	profiles(t, 94, 400, func(x *rand.Rand, l []point) {
		breaks := randomBreaks(x, l, 6)
		n, rise := upTo(x, 0, 9), upTo(x, 0, pick(x, 3, 100, api.MaxHigh))
		feet := ok[[]int](t)(hill.Feet(l, breaks, n, rise))
		for chosen := range 1 << len(feet) {
			higher := slices.Clone(feet)
			for i := range higher {
				higher[i] += chosen >> i & 1
			}
			want(t, fmt.Sprint(l, breaks, n, rise, higher), areFeet(l, breaks, higher, n, rise), chosen == 0)
		}
	})
}

// P8.4: Dig.

func wantDig(t *testing.T, l []point, breaks, levels []int, text string) {
	t.Helper()
	wantRatio(t, fmt.Sprint("digging: ", l, breaks, levels), ok[whole.R](t)(hill.Dig(l, breaks, levels)), text)
}

func TestDig(t *testing.T) {
	thousands := every(0, 4000, 1000)
	wantDig(t, slope(), thousands, []int{-50, -50, 100, 250}, "550000")
	wantDig(t, slope(), thousands, []int{0, 0, 0, 0}, "800000")
	wantDig(t, slope(), thousands, []int{400, 400, 400, 400}, "0")
	wantDig(t, slope(), thousands, []int{200000, 200000, 200000, 399}, "1000")
	wantDig(t, slope(), thousands, []int{0, 100, 300, 400}, "50000")
	wantDig(t, slope(), []int{0, 2000}, []int{100}, "25000")
	wantDig(t, slope(), []int{1000, 1001}, []int{0}, "1/10")
	wantDig(t, path(0, 0, 3, 7), []int{0, 1, 2, 3}, []int{2, 3, 8}, "13/21") // 1/42 and 25/42
	wantDig(t, flat(100000), []int{-100000, 100000}, []int{-200000}, "60000000000")
	wantDig(t, flat(-100000), []int{-100000, 100000}, []int{200000}, "0")
}

func TestDigMany(t *testing.T) {
	met := 0
	profiles(t, 95, 1500, func(x *rand.Rand, l []point) {
		breaks := randomBreaks(x, l, pick(x, 4, 10, api.MaxTreads))
		var levels []int
		for i := range breaks[1:] {
			at := upTo(x, breaks[i], breaks[i+1])
			levels = append(levels, pick(x, floorOf(groundOf(l, at)), floorOf(groundOf(l, at))+upTo(x, -3, 3), upTo(x, -200000, 200000)))
		}
		digging := diggingOf(l, breaks, levels)
		before := slices.Clone(levels)
		wantKept(t, "Dig", l, breaks, func() { wantDig(t, l, breaks, levels, textOf(digging)) })
		wantList(t, "the levels", levels, before...)
		if !digging.IsInt() {
			met++
		}
	})
	if met < 500 {
		t.Errorf("%d digging areas that are not whole", met)
	}
}

// The results of two calls share no memory, nor with an argument.
func TestLevelsNew(t *testing.T) {
	breaks := every(0, 4000, 1000)
	feet, heads := ok[[]int](t)(hill.Feet(slope(), breaks, 50, 150)), ok[[]int](t)(hill.Heads(slope(), breaks, 1000, 150))
	clear(feet)
	clear(heads)
	wantFeet(t, slope(), breaks, 50, 150, -50, -50, 100, 250)
	wantHeads(t, slope(), breaks, 1000, 150, 1100, 1250, 1400, 1400)
	wantList(t, "the breaks", breaks, 0, 1000, 2000, 3000, 4000)
}
