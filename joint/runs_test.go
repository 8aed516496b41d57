package joint_test

import (
	"fmt"
	"math"
	"math/rand"
	"slices"
	"testing"

	"copestone/api"
	"copestone/joint"
	"copestone/place"
)

// P5.2: Roots, Longest.

func wantLongest(t *testing.T, what string, w wall, r rules, height int, run ...int) {
	t.Helper()
	l, h, e := joint.Longest(w, r)
	wantErr(t, what, e, api.OK)
	want(t, what, h, height)
	wantList(t, what, l, run...)
}

func wantRoots(t *testing.T, what string, w wall, r rules, roots ...int) {
	t.Helper()
	wantList(t, what, ok[[]int](t)(joint.Roots(w, r)), roots...)
}

func TestRoots(t *testing.T) {
	wantRoots(t, "the chapter's", five(), front(), 0, 0)
	wantLongest(t, "the chapter's", five(), front(), 160, 0, 1)
	wantRoots(t, "no stones", on(flat()), front())
	one := on(flat(), brick("a", 0, 0), brick("b", 200, 0))
	wantRoots(t, "one joint", one, front(), 0)
	wantLongest(t, "one joint", one, front(), 80, 0)
}

func TestLongestOfNone(t *testing.T) {
	for what, w := range map[string]wall{
		"no stones":      on(flat()),
		"one stone":      on(flat(), brick("a", 0, 0)),
		"too far":        on(flat(), brick("a", 0, 0), brick("b", 221, 0)),
		"the other skin": on(flat(), in(place.Back, brick("a", 0, 0)), in(place.Back, brick("b", 200, 0))),
	} {
		run, height, e := joint.Longest(w, front())
		want(t, what, []any{len(run), height, e}, []any{0, 0, api.ErrNone})
		wantErr(t, what+", bad rules", third(joint.Longest(w, rules{})), api.ErrArg)
	}
}

func third[A, B, C any](_ A, _ B, c C) C { return c }

// narrow rules find joints of the width 5 alone.
func narrow(changes ...func(r *rules)) rules {
	r := front(changes...)
	r.Wide = 5
	return r
}

// How far above or below the end of a joint the next one may begin.
func TestFollowsStep(t *testing.T) {
	for begin := 40; begin < 120; begin++ {
		w := inAir(pairAt("a", 0, 0, 5, 80), pairAt("b", 40, begin, 5, 80))
		root := begin
		if begin >= 70 && begin <= 90 {
			root = 0
		}
		wantRoots(t, fmt.Sprint(begin), w, narrow(), 0, root)
	}
	w := inAir(pairAt("a", 0, 0, 5, 80), pairAt("b", 40, 80, 5, 80), pairAt("c", 80, 161, 5, 80))
	wantRoots(t, "Step 0", w, narrow(func(r *rules) { r.Step = 0 }), 0, 0, 161)
}

// However near its end is, what does not begin above a joint does not follow it.
func TestFollowsAbove(t *testing.T) {
	for begin := -3; begin <= 3; begin++ {
		w := inAir(pairAt("a", 0, 0, 5, 4), pairAt("b", 40, begin, 5, 80))
		roots := []int{min(0, begin), min(0, begin)}
		if begin == 0 {
			roots = []int{0, 0}
		}
		if begin < 0 {
			roots = []int{begin, 0}
		}
		wantRoots(t, fmt.Sprint(begin), w, narrow(), roots...)
	}
}

// How far beside a joint the next one may be.
func TestFollowsLap(t *testing.T) {
	for _, c := range []struct {
		x, lap int
		is     bool
	}{
		{0, 1, true}, {3, 1, true}, {5, 1, true}, {6, 1, false}, {6, 2, true}, {-5, 1, true}, {-6, 1, false}, {-6, 2, true},
		{0, 0, false}, {54, 50, true}, {55, 50, false}, {-54, 50, true}, {-55, 50, false},
	} {
		w := inAir(pairAt("a", 0, 0, 5, 80), pairAt("b", c.x, 80, 5, 80))
		root := 80
		if c.is {
			root = 0
		}
		wantRoots(t, fmt.Sprint(c), w, narrow(func(r *rules) { r.Lap = c.lap }), 0, root)
	}
}

func TestLongestChooses(t *testing.T) {
	// Two towers of the same height: the first last member, by its number.
	w := inAir(pairAt("a", 0, 0, 5, 80), pairAt("b", 0, 80, 5, 80), pairAt("c", 300, 0, 5, 80), pairAt("d", 300, 80, 5, 80))
	wantRoots(t, "towers", w, narrow(), 0, 0, 0, 0)
	wantLongest(t, "towers", w, narrow(), 160, 0, 2)
	// The tower at the right is higher, though it ends lower.
	w = inAir(pairAt("a", 0, 90, 5, 80), pairAt("b", 0, 170, 5, 80), pairAt("c", 300, 0, 5, 80), pairAt("d", 300, 80, 5, 90))
	wantLongest(t, "lower", w, narrow(), 170, 0, 1)
	// Before the last one stands the first one with the same root, not the first one.
	w = inAir(pairAt("a", 100, 0, 5, 80), pairAt("b", 40, 72, 5, 30), pairAt("c", 100, 80, 5, 20), pairAt("d", 72, 100, 5, 80))
	wantRoots(t, "the root", w, narrow(), 0, 72, 0, 0)
	wantLongest(t, "the root", w, narrow(), 180, 0, 2, 3)
	// Two ways with the same root: by the first one of them.
	w = inAir(pairAt("a", 40, 0, 5, 80), pairAt("b", 80, 80, 5, 15), pairAt("c", 0, 80, 5, 15), pairAt("d", 40, 95, 5, 80))
	wantRoots(t, "two ways", w, narrow(), 0, 0, 0, 0)
	wantLongest(t, "two ways", w, narrow(), 175, 0, 1, 3)
	// Of two roots the lesser one, which the first predecessor need not have.
	w = inAir(pairAt("a", 80, 0, 5, 78), pairAt("b", 0, 10, 5, 70), pairAt("c", 0, 81, 5, 7), pairAt("d", 80, 82, 5, 9), pairAt("e", 40, 92, 5, 80))
	wantRoots(t, "two roots", w, narrow(), 0, 10, 10, 0, 0)
	wantLongest(t, "two roots", w, narrow(), 172, 0, 3, 4)
	// The highest one need not end highest: a joint that begins at its root is alone.
	w = inAir(pairAt("a", 0, 0, 5, 200), pairAt("b", 300, 100, 5, 80), pairAt("c", 300, 180, 5, 80))
	wantLongest(t, "alone", w, narrow(), 200, 0)
}

// P5.8 as well: what Longest returns is a running joint, and none is higher.
func TestRunsMany(t *testing.T) {
	long, skipped := 0, 0
	randomWalls(t, 73, 3000, func(_ *rand.Rand, w wall, r rules) {
		l := jointsOf(w, r)
		all, complete := runningJoints(l, r)
		if !complete {
			skipped++
			return
		}
		what := fmt.Sprint(w, r)
		roots := rootsOf(l, all)
		wantKept(t, "Roots", w, func() { wantRoots(t, what, w, r, roots...) })
		if len(l) == 0 {
			wantErr(t, what, third(joint.Longest(w, r)), api.ErrNone)
			return
		}
		run, height := longestOf(l, r, roots)
		wantKept(t, "Longest", w, func() { wantLongest(t, what, w, r, height, run...) })
		want(t, what, slices.ContainsFunc(all, func(other []int) bool { return slices.Equal(run, other) }), true)
		for _, other := range all {
			if h := l[other[len(other)-1]].To - l[other[0]].From; h > height {
				t.Errorf("%s: %v is %d high, above %d", what, other, h, height)
			}
		}
		if len(run) > 2 {
			long++
		}
	})
	if long < 100 || skipped > 300 {
		t.Errorf("%d long ones, %d walls without a count", long, skipped)
	}
}

// P5.3: ProveRuns.

func TestProveRuns(t *testing.T) {
	high := front(func(r *rules) { r.Run = 160 })
	for _, c := range []struct {
		r     rules
		roots []int
		is    bool
	}{
		{high, []int{0, 0}, true}, {front(), []int{0, 0}, false}, {front(), []int{0, 60}, false}, {front(), []int{60, 60}, false},
		{high, []int{0, -1}, false}, {high, []int{-1, 0}, false}, {high, []int{-80, 0}, false}, {high, []int{1, 0}, false}, {high, []int{0, 1}, false},
		{high, nil, false}, {high, []int{}, false}, {high, []int{0}, false}, {high, []int{0, 0, 0}, false},
		{front(func(r *rules) { r.Run = 159 }), []int{0, 0}, false}, {front(func(r *rules) { r.Run, r.Step = 80, 0 }), []int{0, 80}, false},
		{front(func(r *rules) { r.Run, r.Lap = 80, 0 }), []int{0, 80}, true}, {front(func(r *rules) { r.Run, r.Lap = 79, 0 }), []int{0, 80}, false},
		{front(func(r *rules) { r.Run, r.Lap = 80, 0 }), []int{0, 81}, false}, {front(func(r *rules) { r.Run = 200 }), []int{-40, -40}, true},
		{front(func(r *rules) { r.Run = 200 }), []int{-39, -40}, true}, {front(func(r *rules) { r.Run = 200 }), []int{-40, -39}, false},
	} {
		want(t, fmt.Sprint(c), joint.ProveRuns(five(), c.r, c.roots), c.is)
	}
	most := front(func(r *rules) { r.Run = api.MaxLength })
	for _, n := range far {
		want(t, fmt.Sprint(n), joint.ProveRuns(five(), most, []int{n, 0}), false)
		want(t, fmt.Sprint(n), joint.ProveRuns(five(), most, []int{0, n}), false)
		want(t, fmt.Sprint(n), joint.ProveRuns(five(), most, []int{n, n}), false)
	}
	for _, roots := range [][]int{nil, {}} {
		want(t, "no joints", joint.ProveRuns(on(flat()), front(), roots), true)
	}
	want(t, "no joints, a root", joint.ProveRuns(on(flat()), front(), []int{0}), false)
}

// P5.7: what Roots returns is accepted exactly if there are no Runs; whatever is
// accepted, no running joint is higher than Run.
func TestProveRunsMany(t *testing.T) {
	seen := map[bool]int{}
	randomWalls(t, 74, 3000, func(x *rand.Rand, w wall, r rules) {
		what := fmt.Sprint(w, r)
		roots := ok[[]int](t)(joint.Roots(w, r))
		none := !slices.ContainsFunc(ok[[]finding](t)(joint.Survey(w, r)), func(f finding) bool { return f.Kind == joint.Runs })
		want(t, what, joint.ProveRuns(w, r, roots), none)
		l := jointsOf(w, r)
		guess := slices.Clone(roots)
		for k := range guess {
			guess[k] += pick(x, 0, 0, 0, 0, 0, -1, -2, 1)
		}
		got := joint.ProveRuns(w, r, guess)
		want(t, fmt.Sprint(what, guess), got, acceptsRuns(l, r, guess))
		if got && !none {
			t.Errorf("%s: %v is accepted", what, guess)
		}
		if len(l) > 1 {
			seen[got]++
		}
	})
	if seen[true] < 100 || seen[false] < 100 {
		t.Errorf("accepted and not: %v", seen)
	}
}

func TestRootsAreKept(t *testing.T) {
	roots := []int{0, 0, math.MaxInt}
	joint.ProveRuns(five(), front(), roots[:2])
	wantList(t, "roots", roots, 0, 0, math.MaxInt)
}
