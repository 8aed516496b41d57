package thrust_test

import (
	"fmt"
	"math/rand"
	"reflect"
	"slices"
	"testing"

	"copestone/api"
	"copestone/place"
	"copestone/stone"
	"copestone/thrust"
	"copestone/whole"
)

// P4.5: Without, Spare.

func TestWithout(t *testing.T) {
	w := three().Wall
	for i, names := range []string{"bc", "ac", "ab"} {
		got := ok[wall](t)(thrust.Without(w, i))
		text := ""
		for _, p := range got.Stones {
			text += p.Stone.Name
		}
		want(t, fmt.Sprint(i), text, names)
		want(t, "ground", got.Ground, w.Ground)
		want(t, "a stone", got.Stones[0], w.Stones[map[bool]int{true: 1}[i == 0]])
		// The result is new memory.
		got.Ground[0], got.Stones[0], got.Stones[1] = at(7, 7), placed{}, placed{}
		want(t, "kept", w, three().Wall)
	}
	want(t, "the last one", len(ok[wall](t)(thrust.Without(on(flat(), brick("a", 0, 0)), 0)).Stones), 0)
	for _, i := range append([]int{-1, 3}, far...) {
		got, e := thrust.Without(w, i)
		want(t, fmt.Sprint(i), []any{len(got.Ground), len(got.Stones), e}, []any{0, 0, api.ErrRange})
	}
	_, e := thrust.Without(on(flat()), 0)
	wantErr(t, "no stones", e, api.ErrRange)
	for e, l := range badWalls() {
		for _, w := range l {
			for _, i := range []int{0, -1, 999} {
				got, bad := thrust.Without(w, i)
				want(t, fmt.Sprint(w), []any{got, bad}, []any{wall{}, e})
			}
		}
	}
}

func TestSpareExamples(t *testing.T) {
	want(t, "three", ok[[]int](t)(thrust.Spare(three())), []int{0, 1, 2})
	c := front(brick("a", 0, 0), brick("b", 200, 0), brick("c", 110, 80))
	want(t, "c leans on b", ok[[]int](t)(thrust.Spare(c)), []int{0, 2})
	want(t, "no stones", len(ok[[]int](t)(thrust.Spare(front()))), 0)
	want(t, "one stone", ok[[]int](t)(thrust.Spare(front(brick("a", 0, 0)))), []int{0})
	c = front(brick("a", 0, 0), brick("h", 0, 500))
	want(t, "what hangs can be spared alone", ok[[]int](t)(thrust.Spare(c)), []int{1})
	c = front(brick("h", 0, 500), brick("i", 300, 500))
	want(t, "two that hang", len(ok[[]int](t)(thrust.Spare(c))), 0)
	c = front(brick("a", 0, 0), put(box("b", 9, 9), 0, 0, 0, place.Back), put(box("d", 9, 9), 0, 300, 0, place.Through))
	want(t, "both skins", ok[[]int](t)(thrust.Spare(c)), []int{0, 2})
	c.Skin = place.Back
	want(t, "the other case", ok[[]int](t)(thrust.Spare(c)), []int{1, 2})
}

// Loads go with their stone, and stay on stones behind it.
func TestSpareWithLoads(t *testing.T) {
	c := front(brick("a", 0, 0), brick("b", 300, 0), brick("c", 600, 0))
	push := load(1, n(300), n(70), weights(9, 1), n(0)).to(c)
	want(t, "a push", ok[[]int](t)(thrust.Spare(push)), []int{1})
	// The long stone b would tip without its load.
	c = front(brick("a", 0, 0), put(box("b", 400, 80), 0, 150, 80, place.Front), brick("c", 150, 160))
	held := load(1, n(150), n(160), n(0), weights(-99, 1)).to(c)
	want(t, "held by a load", ok[[]int](t)(thrust.Spare(held)), []int{2})
	front := front(c.Wall.Stones[2], c.Wall.Stones[0], c.Wall.Stones[1])
	want(t, "held by a load, in another order", ok[[]int](t)(thrust.Spare(load(2, n(150), n(160), n(0), weights(-99, 1)).to(front))), []int{0})
	many := loads(make([]thrust.Load, api.MaxLoads)).to(three())
	want(t, "many loads", ok[[]int](t)(thrust.Spare(many)), []int{0, 1, 2})
}

// withoutIn returns the case without a stone, and without the loads on it.
func withoutIn(t *testing.T, c cased, i int) cased {
	t.Helper()
	c.Wall = ok[wall](t)(thrust.Without(c.Wall, i))
	var l []thrust.Load
	for _, x := range c.Loads {
		if x.Stone > i {
			x.Stone--
			l = append(l, x)
		} else if x.Stone < i {
			l = append(l, x)
		}
	}
	c.Loads = l
	return c
}

func TestSpareMany(t *testing.T) {
	count := 0
	randomCases(t, 71, 1000, func(_ *rand.Rand, c cased) {
		var wanted []int
		for _, i := range stonesOf(c) {
			if slowly(withoutIn(t, c, i)).reason.Kind == 0 {
				wanted = append(wanted, i)
			}
		}
		var got []int
		wantKept(t, "Spare", c, func() { got = ok[[]int](t)(thrust.Spare(c)) })
		if !slices.Equal(got, wanted) {
			t.Errorf("%s: %v, want %v", caseText(c), got, wanted)
		}
		count += len(got)
	})
	if count < 1000 {
		t.Errorf("%d stones", count)
	}
}

// P4.6: Rocks.

func TestRocks(t *testing.T) {
	alone := front(brick("a", 0, 0))
	over := front(brick("a", 0, 0), brick("c", 90, 80))
	left := front(brick("a", 0, 0), brick("c", -90, 80))
	// W at 190 and a load at 290 have their sum at 200 for a load of W/9.
	ninth := weights(1, 9)
	tall := front(put(shaped("t", path(10, 0, 20, 0, 30, 30, 0, 30)...), 0, 0, 0, place.Front))
	for _, x := range []struct {
		what string
		c    cased
		i    int
		load whole.R
		want bool
	}{
		{"a brick alone, no load", alone, 0, n(0), false},
		{"a brick alone, any load", alone, 0, weights(1000000, 1), false},
		{"over the end", over, 1, ninth, false},
		{"over the end, a bit more", over, 1, ninth.Add(r(1, 1000)), true},
		{"over the left end", left, 1, ninth, false},
		{"over the left end, a bit more", left, 1, ninth.Add(r(1, 1000)), true},
		{"what carries it", over, 0, weights(1000000, 1), false},
		{"not over a foot", tall, 0, n(1), false},
		{"over a foot", tall, 0, weights(9, 1), true},
		{"tips anyway", front(brick("a", 0, 0), brick("c", 101, 80)), 1, n(0), true},
		{"another one tips", front(brick("a", 0, 0), brick("c", 101, 80)), 0, n(0), false},
		{"hangs", front(brick("a", 0, 500)), 0, n(9), false},
		{"slides", load(0, n(0), n(0), weights(9, 1), n(0)).to(alone), 0, n(0), false},
		{"held by the load", front(brick("c", 101, 80), brick("a", 0, 0)), 0, weights(1, 1), true},
		{"many loads", loads(make([]thrust.Load, api.MaxLoads)).to(over), 1, weights(1, 8), true},
	} {
		want(t, x.what, ok[bool](t)(thrust.Rocks(x.c, x.i, x.load)), x.want)
	}
}

// The ends of the top are the upper corners at the least and the greatest X,
// which matters if the load is not the only force that is not straight down.
func TestRocksAtTheTop(t *testing.T) {
	for _, l := range [][]point{path(3, 0, 9, 0, 12, 4, 12, 9, 0, 8, 0, 3), path(3, 0, 9, 0, 12, 5, 6, 9, 0, 5)} {
		for way := range 8 {
			p := put(light(shaped("t", l...)), way, 0, 0, place.Front)
			for _, push := range []int64{-40, -9, 9, 40} {
				c := load(0, n(3), n(3), n(push), n(-30)).to(front(p))
				c.Low, c.High = n(10), n(10)
				for _, x := range []int64{0, 1, 9, 40, 160, 1000} {
					what := fmt.Sprint(caseText(c), x)
					want(t, what, ok[bool](t)(thrust.Rocks(c, 0, n(x))), slowRocks(c, 0, n(x)))
				}
			}
		}
	}
}

// slowRocks adds the load at both ends of the top of a stone.
func slowRocks(c cased, i int, by whole.R) bool {
	corners, _ := place.Corners(c.Wall.Stones[i])
	for _, way := range []int{1, -1} {
		end := slices.MinFunc(corners, func(p, q stone.Point) int {
			if p.X != q.X {
				return way * (p.X - q.X)
			}
			return q.Z - p.Z
		})
		s := slowly(load(i, n(int64(end.X)), n(int64(end.Z)), n(0), by.Neg()).to(c))
		if s.reason.Kind == thrust.Tips && s.reason.Stone == i {
			return true
		}
	}
	return false
}

func TestRocksMany(t *testing.T) {
	seen := map[bool]int{}
	randomCases(t, 72, 700, func(x *rand.Rand, c cased) {
		for _, i := range stonesOf(c) {
			by := r(int64(x.Intn(40)), int64(1+x.Intn(3)))
			var got bool
			wantKept(t, "Rocks", c, func() { got = ok[bool](t)(thrust.Rocks(c, i, by)) })
			want(t, fmt.Sprint(caseText(c), i, by.Text()), got, slowRocks(c, i, by))
			seen[got]++
		}
	})
	if seen[true] < 100 || seen[false] < 1000 {
		t.Errorf("%v", seen)
	}
}

func TestRocksErrors(t *testing.T) {
	c := front(brick("a", 0, 0), put(box("b", 9, 9), 0, 0, 0, place.Back))
	for _, i := range append([]int{-1, 1, 2}, far...) {
		for _, by := range []whole.R{n(0), n(-1)} {
			got, e := thrust.Rocks(c, i, by)
			want(t, fmt.Sprint(i), []any{got, e}, []any{false, api.ErrRange})
		}
	}
	for _, by := range []whole.R{n(-1), r(-1, 1000)} {
		got, e := thrust.Rocks(c, 0, by)
		want(t, by.Text(), []any{got, e}, []any{false, api.ErrArg})
	}
	want(t, "kept", reflect.DeepEqual(c, copied(c)), true)
}
