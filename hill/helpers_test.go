package hill_test

import (
	"fmt"
	"math"
	"math/big"
	"math/rand"
	"reflect"
	"slices"
	"testing"

	"copestone/api"
	"copestone/hill"
	"copestone/stone"
	"copestone/whole"
)

// The tests hold the package against slow ways with math/big that follow the words
// of the chapter (slow_test.go).

type (
	point = stone.Point
	bay   = hill.Bay
	row   = hill.Row
)

var far = []int{math.MaxInt, math.MinInt, math.MaxInt - 1, math.MinInt + 1, math.MaxInt32, math.MinInt32, 1 << 40, -1 << 40}

// path returns the points whose X and Z these are, in turn.
func path(numbers ...int) []point {
	var l []point
	for i := 0; i < len(numbers); i += 2 {
		l = append(l, point{X: numbers[i], Z: numbers[i+1]})
	}
	return l
}

// slope is the profile of the chapter.
func slope() []point { return path(0, 0, 1000, 0, 3000, 400, 4000, 400) }

// steep is one with places where the ground is not whole, and below 0.
func steep() []point { return path(-7, -4, -4, 6, 0, -5, 3, -5, 10, 20) }

// flat returns a profile that is as wide as may be, with this height.
func flat(z int) []point { return path(-api.MaxFar, z, api.MaxFar, z) }

// comb returns a profile with so many points, in turn low and high.
func comb(points, step, low, high int) []point {
	var l []point
	for i := range points {
		l = append(l, point{X: i * step, Z: low})
		low, high = high, low
	}
	return l
}

// every returns breaks at equal distances.
func every(from, to, step int) []int {
	var l []int
	for x := from; x <= to; x += step {
		l = append(l, x)
	}
	return l
}

// badProfiles are not valid, by what is wrong with them.
func badProfiles() map[string][]point {
	l := map[string][]point{
		"nothing": nil, "no points": {}, "a point": path(0, 0), "41 points": comb(api.MaxGround+1, 10, 0, 5),
		"not rising": path(0, 0, 0, 5), "falling": path(5, 0, 0, 0), "falling at last": path(0, 0, 5, 5, 9, 0, 8, 0), "resting in between": path(0, 0, 5, 5, 5, 6, 8, 0),
	}
	for _, n := range append([]int{-api.MaxFar - 1, api.MaxFar + 1}, far...) {
		l[fmt.Sprint("the Z ", n)] = path(0, 0, 5, n, 9, 0)
		l[fmt.Sprint("the first Z ", n)] = path(0, n, 5, 5, 9, 0)
		l[fmt.Sprint("the last Z ", n)] = path(0, 0, 5, 5, 9, n)
		l[fmt.Sprint("the X ", n)] = path(0, 0, n, 5)
		l[fmt.Sprint("the first X ", n)] = path(n, 0, 0, 5)
		l[fmt.Sprint("the X in between ", n)] = path(0, 0, n, 5, 9, 0)
	}
	return l
}

// badStretches are no stretches of a profile from -7 to 10.
func badStretches() [][2]int {
	l := [][2]int{{0, 0}, {-7, -7}, {10, 10}, {3, 2}, {10, -7}, {-8, 0}, {-8, 11}, {0, 11}, {10, 11}, {-8, -7}, {20, 30}, {-30, -20}}
	for _, n := range far {
		l = append(l, [2]int{n, 5}, [2]int{5, n}, [2]int{n, n}, [2]int{n, -n})
	}
	return l
}

// badBreaks are no breaks of a profile from -7 to 10, by what is wrong with them.
func badBreaks() map[string][]int {
	l := map[string][]int{
		"nothing": nil, "none": {}, "one": {0}, "not rising": {0, 0}, "falling": {3, 0}, "resting at last": {0, 3, 5, 5}, "falling in between": {0, 5, 3, 9},
		"too far left": {-8, 0}, "too far right": {0, 11}, "left of it": {-9, -8}, "right of it": {11, 12},
	}
	for _, n := range far {
		l[fmt.Sprint("at first ", n)] = []int{n, 5}
		l[fmt.Sprint("at last ", n)] = []int{5, n}
		l[fmt.Sprint("in between ", n)] = []int{0, n, 5}
	}
	return l
}

// Random profiles, stretches and breaks.

func pick[T any](x *rand.Rand, l ...T) T { return l[x.Intn(len(l))] }

// upTo returns a number from least to most.
func upTo(x *rand.Rand, least, most int) int { return least + x.Intn(most-least+1) }

// rising returns so many different numbers, from least to most, from the least on.
func rising(x *rand.Rand, count, least, most int) []int {
	seen := map[int]bool{}
	var l []int
	for len(l) < count {
		n := upTo(x, least, most)
		if !seen[n] {
			seen[n] = true
			l = append(l, n)
		}
	}
	slices.Sort(l)
	return l
}

// randomProfile returns one that is at most so far from (0, 0).
func randomProfile(x *rand.Rand, wide, high int) []point {
	var l []point
	for _, n := range rising(x, upTo(x, 2, min(wide, pick(x, 3, 6, api.MaxGround))), -wide, wide) {
		l = append(l, point{X: n, Z: upTo(x, -high, high)})
	}
	if x.Intn(4) == 0 { // a level part
		l[0].Z = l[1].Z
	}
	return l
}

func ends(l []point) (int, int) { return l[0].X, l[len(l)-1].X }

// randomStretch takes points of the profile as its ends now and then.
func randomStretch(x *rand.Rand, l []point) (int, int) {
	least, most := ends(l)
	for {
		a, b := pick(x, upTo(x, least, most), pick(x, l...).X), pick(x, upTo(x, least, most), pick(x, l...).X)
		if a != b {
			return min(a, b), max(a, b)
		}
	}
}

func randomBreaks(x *rand.Rand, l []point, treads int) []int {
	least, most := ends(l)
	return rising(x, min(upTo(x, 1, treads), most-least)+1, least, most)
}

// profiles calls a test with many profiles: small ones, wide ones, and some with
// numbers as great as may be.
func profiles(t *testing.T, seed int64, count int, test func(x *rand.Rand, l []point)) {
	t.Helper()
	x := rand.New(rand.NewSource(seed))
	for n := range count {
		switch n % 4 {
		case 0:
			test(x, randomProfile(x, 1000, 500))
		case 1:
			test(x, randomProfile(x, api.MaxFar, api.MaxFar))
		default:
			test(x, randomProfile(x, 10, 8))
		}
	}
}

// What is wanted.

func wantErr(t *testing.T, what string, got, want api.Errno) {
	t.Helper()
	if got != want {
		t.Errorf("%s: %v, want %v", what, got, want)
	}
}

func want[A comparable](t *testing.T, what string, got, want A) {
	t.Helper()
	if got != want {
		t.Errorf("%s: %v, want %v", what, got, want)
	}
}

// wantRatio wants a ratio with this text.
func wantRatio(t *testing.T, what string, got whole.R, text string) {
	t.Helper()
	want(t, what, got.Text(), text)
}

// textOf writes an integer without a denominator, as the chapter of whole does.
func textOf(r *big.Rat) string { return r.RatString() }

// rat returns a ratio of the program.
func rat(r whole.R) *big.Rat {
	n, _ := new(big.Rat).SetString(r.Text())
	return n
}

// wantList takes a nil list for an empty one.
func wantList[A comparable](t *testing.T, what string, got []A, want ...A) {
	t.Helper()
	if !slices.Equal(got, want) {
		t.Errorf("%s: %v, want %v", what, got, want)
	}
}

func wantRows(t *testing.T, what string, got []row, want ...row) {
	t.Helper()
	if len(got)+len(want) > 0 && !reflect.DeepEqual(got, want) {
		t.Errorf("%s: %v, want %v", what, got, want)
	}
}

func ok[A any](t *testing.T) func(a A, e api.Errno) A {
	return func(a A, e api.Errno) A {
		t.Helper()
		if e != api.OK {
			t.Errorf("%v, want OK", e)
		}
		return a
	}
}

// wantKept fails if calls have changed a profile or a list of numbers.
func wantKept(t *testing.T, what string, l []point, numbers []int, calls func()) {
	t.Helper()
	points, before := slices.Clone(l), slices.Clone(numbers)
	calls()
	wantList(t, what+" has changed the profile", l, points...)
	wantList(t, what+" has changed the numbers", numbers, before...)
}
