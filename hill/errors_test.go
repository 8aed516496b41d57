package hill_test

import (
	"fmt"
	"math"
	"math/rand"
	"testing"

	"copestone/api"
	"copestone/hill"
)

// P1: the errors of all calls, the first one first; with an error there is no other
// result.

const (
	goodArea = int64(5)
	badArea  = int64(0)
)

// wantStretchErrors asks the calls with a stretch, with arguments that are valid and
// with others.
func wantStretchErrors(t *testing.T, what string, l []point, a, b int, e api.Errno) {
	t.Helper()
	least, most, got := hill.Bounds(l, a, b)
	want(t, what+": Bounds", [3]string{least.Text(), most.Text(), got.Error()}, [3]string{"0", "0", e.Error()})
	for _, z := range []int{0, 100001, math.MinInt} {
		wantAreasError(t, what, l, a, b, z, e)
	}
	for _, area := range []int64{goodArea, badArea, 1000000000000} {
		wantFloodError(t, what, l, a, b, area, e)
	}
	for _, d := range []ditch{{a, b, 1, 1, 60, 0}, {a, b, 0, 1, 60, 0}, {a, b, 1, 0, 60, -1}, {a, b, 1 << 50, 200000, 61, 0}} {
		wantBestError(t, what, l, d, e)
	}
}

func wantAreasError(t *testing.T, what string, l []point, a, b, z int, e api.Errno) {
	t.Helper()
	above, below, got := hill.Areas(l, a, b, z)
	want(t, what+": Areas", [3]string{above.Text(), below.Text(), got.Error()}, [3]string{"0", "0", e.Error()})
	pool, got := hill.Pool(l, a, b, z)
	want(t, what+": Pool", [2]string{pool.Text(), got.Error()}, [2]string{"0", e.Error()})
}

func wantFloodError(t *testing.T, what string, l []point, a, b int, area int64, e api.Errno) {
	t.Helper()
	z, got := hill.Flood(l, a, b, area)
	want(t, what+": Flood", [2]string{fmt.Sprint(z), got.Error()}, [2]string{"0", e.Error()})
}

func wantBestError(t *testing.T, what string, l []point, d ditch, e api.Errno) {
	t.Helper()
	breaks, cost, got := best(l, d)
	want(t, fmt.Sprint(what, ": Best of ", d), [3]string{fmt.Sprint(breaks), cost.Text(), got.Error()}, [3]string{"[]", "0", e.Error()})
}

// wantBreaksErrors asks the calls with breaks, with arguments that are valid and with
// others.
func wantBreaksErrors(t *testing.T, what string, l []point, breaks []int, e api.Errno) {
	t.Helper()
	for _, n := range []int{0, -1, 3001} {
		wantLevelsErrors(t, what, l, breaks, n, 0, e)
		wantLevelsErrors(t, what, l, breaks, 0, n, e)
	}
	for _, levels := range [][]int{nil, {0}, {0, 0}, {0, math.MaxInt, 0}} {
		wantDigError(t, what, l, breaks, levels, e)
		for _, height := range []int{1, 0, 3001} {
			wantRowsError(t, what, l, breaks, levels, levels, height, e)
		}
	}
}

func wantLevelsErrors(t *testing.T, what string, l []point, breaks []int, n, rise int, e api.Errno) {
	t.Helper()
	feet, got := hill.Feet(l, breaks, n, rise)
	want(t, fmt.Sprint(what, ": Feet with ", n, rise), [2]string{fmt.Sprint(feet), got.Error()}, [2]string{"[]", e.Error()})
	heads, got := hill.Heads(l, breaks, n, rise)
	want(t, fmt.Sprint(what, ": Heads with ", n, rise), [2]string{fmt.Sprint(heads), got.Error()}, [2]string{"[]", e.Error()})
}

func wantDigError(t *testing.T, what string, l []point, breaks, levels []int, e api.Errno) {
	t.Helper()
	digging, got := hill.Dig(l, breaks, levels)
	want(t, fmt.Sprint(what, ": Dig with ", levels), [2]string{digging.Text(), got.Error()}, [2]string{"0", e.Error()})
}

func wantRowsError(t *testing.T, what string, l []point, breaks, feet, heads []int, height int, e api.Errno) {
	t.Helper()
	rows, got := hill.Rows(l, breaks, feet, heads, height)
	want(t, fmt.Sprint(what, ": Rows with ", feet, heads, height), [2]string{fmt.Sprint(rows), got.Error()}, [2]string{"[]", e.Error()})
}

// The error of the profile comes before all others.
func TestErrorsOfProfiles(t *testing.T) {
	for what, l := range badProfiles() {
		for _, x := range []int{0, 5, math.MaxInt, math.MinInt} {
			g, e := hill.Ground(l, x)
			want(t, what+": Ground", [2]string{g.Text(), e.Error()}, [2]string{"0", api.ErrArg.Error()})
		}
		for _, ends := range append(badStretches(), [2]int{0, 5}) {
			wantStretchErrors(t, what, l, ends[0], ends[1], api.ErrArg)
		}
		for _, breaks := range [][]int{{0, 5}, {0, 2, 5}, {0}, nil, {0, math.MaxInt}} {
			wantBreaksErrors(t, what, l, breaks, api.ErrArg)
		}
	}
}

func TestErrorsOfStretches(t *testing.T) {
	for _, ends := range badStretches() {
		wantStretchErrors(t, fmt.Sprint(ends), steep(), ends[0], ends[1], api.ErrOpen)
	}
}

func TestErrorsOfBreaks(t *testing.T) {
	for what, breaks := range badBreaks() {
		wantBreaksErrors(t, what, steep(), breaks, api.ErrArg)
	}
	wantBreaksErrors(t, "62 breaks", slope(), every(0, 61, 1), api.ErrArg)
	want(t, "61 breaks", len(ok[[]int](t)(hill.Feet(slope(), every(0, 60, 1), 0, 0))), 60)
}

func TestErrorsOfLevels(t *testing.T) {
	for _, z := range append([]int{-api.MaxFar - 1, api.MaxFar + 1}, far...) {
		wantAreasError(t, fmt.Sprint(z), steep(), 0, 5, z, api.ErrRange)
	}
	wantAreas(t, steep(), 0, 3, -api.MaxFar, "299985", "0")
	wantAreas(t, steep(), 0, 3, api.MaxFar, "0", "300015")
	for _, area := range []int64{0, -1, 1000000000001, math.MaxInt64, math.MinInt64} {
		wantFloodError(t, fmt.Sprint(area), flat(-100000), -100000, 100000, area, api.ErrRange)
		wantFloodError(t, fmt.Sprint(area), flat(100000), 0, 1, area, api.ErrRange) // before ErrVoid
	}
	for _, area := range []int64{1, 1000000000000} {
		wantFloodError(t, fmt.Sprint(area), flat(100000), 0, 1, area, api.ErrVoid)
	}
}

func TestErrorsOfRanges(t *testing.T) {
	breaks := []int{0, 3, 5}
	for _, n := range append([]int{-1, api.MaxHigh + 1}, far...) {
		wantLevelsErrors(t, "out of range", steep(), breaks, n, 5, api.ErrRange)
		wantLevelsErrors(t, "out of range", steep(), breaks, 5, n, api.ErrRange)
		wantLevelsErrors(t, "out of range", steep(), breaks, n, n, api.ErrRange)
	}
	for _, n := range append([]int{0, -1, api.MaxHigh + 1}, far...) {
		wantRowsError(t, "out of range", steep(), breaks, []int{0, 0}, []int{9, 9}, n, api.ErrRange)
		wantRowsError(t, "before the levels", steep(), breaks, nil, []int{9}, n, api.ErrRange)
	}
	for _, levels := range [][]int{nil, {}, {0}, {0, 0, 0}, {0, 200001}, {-200001, 0}, {0, math.MaxInt}, {math.MinInt, 0}, {math.MinInt, math.MaxInt}} {
		wantDigError(t, "bad levels", steep(), breaks, levels, api.ErrArg)
		for _, height := range []int{1, 3000} {
			wantRowsError(t, "bad feet", steep(), breaks, levels, []int{9, 9}, height, api.ErrArg)
			wantRowsError(t, "bad heads", steep(), breaks, []int{0, 0}, levels, height, api.ErrArg)
			wantRowsError(t, "bad levels", steep(), breaks, levels, levels, height, api.ErrArg)
		}
	}
	// ErrArg comes before ErrLimit.
	wantRowsError(t, "bad heads", steep(), breaks, []int{0, 0}, []int{2000, 200001}, 1, api.ErrArg)
	wantRowsError(t, "too many rows", steep(), breaks, []int{0, 0}, []int{201, 0}, 1, api.ErrLimit)
	wantRowsError(t, "far too many rows", steep(), breaks, []int{-200000, 0}, []int{0, 200000}, 1999, api.ErrLimit)
	wantDig(t, steep(), []int{0, 3}, []int{-200000}, "599985")
	wantDig(t, steep(), []int{0, 3}, []int{200000}, "0")
}

func TestErrorsOfBest(t *testing.T) {
	good := ditch{-5, 10, 5, 5, 3, 7}
	wantBest(t, steep(), ditch{-5, 10, 5, 5, 1, 7}, "1343/6", -5, 10)
	for _, n := range far {
		for _, d := range []ditch{{-5, 10, 5, n, 3, 7}, {-5, 10, 5, 5, n, 7}, {-5, 10, 5, 5, 3, n}} {
			wantBestError(t, "far", steep(), d, api.ErrRange)
		}
	}
	for _, d := range []ditch{
		{-5, 10, 0, 5, 3, 7}, {-5, 10, -1, 5, 3, 7}, {-5, 10, -5, 5, 3, 7}, {-5, 10, math.MinInt, 5, 3, 7},
		{-5, 10, 5, 0, 3, 7}, {-5, 10, 5, -1, 3, 7}, {-5, 10, 5, 200001, 3, 7},
		{-5, 10, 5, 5, 0, 7}, {-5, 10, 5, 5, -1, 7}, {-5, 10, 5, 5, 61, 7},
		{-5, 10, 5, 5, 3, -1}, {-5, 10, 5, 5, 3, 3001},
		{-5, 10, 4, 0, 3, 7}, {-5, 10, 4, 5, 61, 7}, {-5, 10, 4, 5, 3, -1}, {-5, 10, 5, 16, 0, 7}, // before ErrArg and ErrVoid
	} {
		wantBestError(t, "out of range", steep(), d, api.ErrRange)
	}
	for _, unit := range []int{2, 4, 6, 10, 14, 16, 30, 100, math.MaxInt, math.MaxInt - 14} {
		wantBestError(t, "no multiple", steep(), ditch{-5, 10, unit, 5, 3, 7}, api.ErrArg)
		wantBestError(t, "no multiple", steep(), ditch{-5, 10, unit, 16, 3, 7}, api.ErrArg) // before ErrVoid
	}
	wantBestError(t, "61 units", slope(), ditch{0, 61, 1, 1, 60, 0}, api.ErrArg)
	wantBestError(t, "61 units", slope(), ditch{0, 610, 10, 1000, 60, 0}, api.ErrArg)
	for _, least := range []int{16, 17, 1000, 200000} {
		wantBestError(t, "too short", steep(), ditch{-5, 10, 5, least, 3, 7}, api.ErrVoid)
	}
	_, _, e := best(steep(), good)
	wantErr(t, "good", e, api.OK)
}

// Any values at all: no call panics.
func TestAnyValues(t *testing.T) {
	x := rand.New(rand.NewSource(121))
	number := func() int {
		return pick(x, append(far, 0, 1, 2, -1, 3, 60, 200, 3000, 100000, -100000, 200000, x.Intn(4000), -x.Intn(4000))...)
	}
	numbers := func() []int {
		var l []int
		for range x.Intn(5) {
			l = append(l, number())
		}
		return l
	}
	for range 20000 {
		l := pick(x, slope(), steep(), flat(-100000), nil)
		if x.Intn(3) == 0 {
			l = append(l, point{X: number(), Z: number()})
		}
		wantNoPanic(t, l, numbers, number)
	}
}

func wantNoPanic(t *testing.T, l []point, numbers func() []int, number func() int) {
	t.Helper()
	a, b, breaks, levels := number(), number(), numbers(), numbers()
	defer func() {
		if thrown := recover(); thrown != nil {
			t.Errorf("%v, %d, %d, %v, %v: %v", l, a, b, breaks, levels, thrown)
		}
	}()
	valid := hill.Check(l) == api.OK
	_, e := hill.Ground(l, a)
	want(t, fmt.Sprint(l, a), e == api.ErrArg, !valid)
	hill.Bounds(l, a, b)
	hill.Areas(l, a, b, number())
	hill.Pool(l, a, b, number())
	hill.Flood(l, a, b, int64(number()))
	hill.Feet(l, breaks, number(), number())
	hill.Heads(l, breaks, number(), number())
	hill.Dig(l, breaks, levels)
	hill.Rows(l, breaks, levels, levels, number())
	hill.Best(l, a, b, number(), number(), number(), number())
}
