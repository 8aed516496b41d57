package joint_test

import (
	"fmt"
	"math/rand"
	"testing"

	"copestone/api"
	"copestone/joint"
	"copestone/place"
)

// P5.6: Bare.

func wantBare(t *testing.T, what string, w wall, low, high, from, to, want int) {
	t.Helper()
	if got := ok[int](t)(joint.Bare(w, low, high, from, to)); got != want {
		t.Errorf("%s, between the heights %d and %d, from %d to %d: %d, want %d", what, low, high, from, to, got, want)
	}
}

func through(name string, x, z, wide, high int) placed {
	return in(place.Through, boxed(name, x, z, wide, high))
}

func TestBare(t *testing.T) {
	w := five()
	wantBare(t, "the chapter's", w, 0, 160, 0, 400, 400)
	w.Stones[2].Skin = place.Through
	wantBare(t, "c through", w, 0, 160, 0, 400, 200)
	wantBare(t, "back stones", on(flat(), in(place.Back, brick("a", 0, 0))), 0, 160, 0, 400, 400)
	wantBare(t, "no stones", on(flat()), 0, 1, 0, 1, 1)
	wantBare(t, "no stones, far", on(flat()), -api.MaxFar, api.MaxFar, -api.MaxFar, api.MaxFar, 2*api.MaxFar)
}

func TestBareHeights(t *testing.T) {
	w := on(flat(), through("a", 100, 80, 100, 80))
	for _, c := range []struct{ low, high, want int }{
		{0, 80, 400}, {0, 81, 200}, {159, 160, 200}, {160, 161, 400}, {100, 101, 200}, {0, 300, 200}, {-50, 79, 400}, {159, 999, 200},
	} {
		wantBare(t, "a", w, c.low, c.high, 0, 400, c.want)
	}
}

func TestBareStretches(t *testing.T) {
	w := on(flat(), through("a", 100, 0, 50, 80), through("b", 250, 0, 20, 80), in(place.Back, boxed("c", 150, 0, 100, 80)), through("d", 110, 80, 100, 9))
	for _, c := range []struct{ from, to, want int }{
		{0, 400, 130}, {0, 300, 100}, {0, 100, 100}, {100, 150, 0}, {100, 151, 0}, {110, 140, 0}, {99, 150, 1}, {210, 250, 40}, {100, 270, 40},
		{211, 249, 38}, {250, 270, 0}, {250, 271, 1}, {-900, -800, 100}, {-900, 105, 1000}, {260, 100000, 99730}, {-100000, 90, 100090}, {260, 265, 0},
	} {
		wantBare(t, "a, b, d", w, 0, 160, c.from, c.to, c.want)
	}
	// Of throughs above each other the lower one may reach farther.
	w = on(flat(), through("a", 0, 0, 300, 50), through("b", 50, 50, 20, 50), through("c", 350, 0, 50, 50))
	wantBare(t, "one within the other", w, 0, 100, 0, 400, 50)
	wantBare(t, "the upper one", w, 50, 100, 0, 400, 330)
}

func TestBareErrors(t *testing.T) {
	const far1 = api.MaxFar + 1
	bad := [][4]int{{0, 0, 0, 9}, {9, 0, 0, 9}, {0, 9, 5, 5}, {0, 9, 6, 5}, {-far1, 0, 0, 9}, {0, far1, 0, 9}, {0, 9, -far1, 0}, {0, 9, 0, far1}}
	for _, n := range far {
		bad = append(bad, [4]int{n, 9, 0, 9}, [4]int{0, n, 0, 9}, [4]int{0, 9, n, 9}, [4]int{0, 9, 0, n}, [4]int{n, n, n, n})
	}
	for _, c := range bad {
		for _, w := range []wall{five(), on(flat())} {
			n, e := joint.Bare(w, c[0], c[1], c[2], c[3])
			want(t, fmt.Sprint(c), []any{n, e}, []any{0, api.ErrArg})
		}
	}
}

// P5.12 as well: of a part, of what is covered, and without throughs.
func TestBareMany(t *testing.T) {
	seen := map[string]int{}
	randomWalls(t, 78, 1500, func(x *rand.Rand, w wall, _ rules) {
		low, from := x.Intn(12)-2, x.Intn(20)-3
		high, to := low+1+x.Intn(8), from+1+x.Intn(14)
		what := fmt.Sprint(w)
		var got int
		wantKept(t, "Bare", w, func() { got = ok[int](t)(joint.Bare(w, low, high, from, to)) })
		wantBare(t, what, w, low, high, from, to, bareOf(w, low, high, from, to))
		part := from + x.Intn(to-from)
		if n := ok[int](t)(joint.Bare(w, low, high, part, part+1+x.Intn(to-part))); n > got {
			t.Errorf("%s, between %d and %d: %d of a part from %d, %d from %d to %d", what, low, high, n, part, got, from, to)
		}
		covered, free := true, true
		for x := from; x < to; x++ {
			bare := bareOf(w, low, high, x, x+1) == 1
			covered, free = covered && !bare, free && bare
		}
		want(t, what+" covered", got == 0, covered)
		want(t, what+" free", got == to-from, free)
		seen[fmt.Sprint(covered, free)]++
	})
	for _, kind := range []string{"true false", "false true", "false false"} {
		if seen[kind] < 50 {
			t.Errorf("covered and free %s: %d times", kind, seen[kind])
		}
	}
}
