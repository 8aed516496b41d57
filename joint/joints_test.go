package joint_test

import (
	"fmt"
	"math/rand"
	"slices"
	"testing"

	"copestone/api"
	"copestone/joint"
	"copestone/place"
	"copestone/stone"
)

// P5.1: CheckRules, Joints.

func TestCheckRules(t *testing.T) {
	const most = api.MaxLength
	for _, r := range []rules{
		front(), {Skin: place.Front}, {Skin: place.Back},
		{Skin: place.Back, Pin: api.MaxPin, Wide: most, Lap: most, Step: most, Run: most, Level: most},
	} {
		wantErr(t, fmt.Sprint(r), joint.CheckRules(r), api.OK)
	}
	for what, r := range badRules() {
		wantErr(t, what, joint.CheckRules(r), api.ErrArg)
	}
}

func wantJoints(t *testing.T, what string, w wall, r rules, want ...joint.Joint) {
	t.Helper()
	wantList(t, what, ok[joints](t)(joint.Joints(w, r)), want...)
}

func TestJoints(t *testing.T) {
	wantJoints(t, "the chapter's", five(), front(), joint.Joint{0, 1, 200, 200, 0, 80}, joint.Joint{2, 3, 200, 200, 80, 160})
	wantJoints(t, "no stones", on(flat()), front())
	wantJoints(t, "one stone", on(flat(), brick("a", 0, 0)), front())
	wantJoints(t, "the other skin", five(), front(func(r *rules) { r.Skin = place.Back }))
	wantJoints(t, "the right one first", on(flat(), brick("b", 200, 0), brick("a", 0, 0)), front(), joint.Joint{1, 0, 200, 200, 0, 80})
}

func TestJointsWidth(t *testing.T) {
	for wide := range 40 {
		w := on(flat(), brick("a", 0, 0), brick("b", 200+wide, 0))
		want(t, fmt.Sprint(wide), len(ok[joints](t)(joint.Joints(w, front()))) == 1, wide <= 20)
	}
	w := on(flat(), brick("a", 0, 0), brick("b", 201, 0), brick("c", 401, 0))
	wantJoints(t, "Wide 0", w, front(func(r *rules) { r.Wide = 0 }), joint.Joint{1, 2, 401, 401, 0, 80})
	// Extents may overlap where stones do not.
	half := put(shaped("a", path(0, 0, 200, 0, 0, 80)...), 0, 0, place.Front)
	other := put(shaped("b", path(200, 0, 200, 80, 0, 80)...), 1, 0, place.Front)
	wantJoints(t, "extents that overlap", on(flat(), half, other), front())
}

func TestJointsHeight(t *testing.T) {
	for _, c := range []struct{ z, from, to int }{{-80, 0, 0}, {-79, 0, 1}, {-20, 0, 60}, {0, 0, 80}, {30, 30, 80}, {79, 79, 80}, {80, 0, 0}, {90, 0, 0}} {
		w := on(deepDown(), brick("a", 0, 0), brick("b", 210, c.z))
		if c.from < c.to {
			wantJoints(t, fmt.Sprint(c), w, front(), joint.Joint{0, 1, 200, 210, c.from, c.to})
		} else {
			wantJoints(t, fmt.Sprint(c), w, front())
		}
	}
	w := on(deepDown(), brick("a", 0, 0), boxed("b", 200, 20, 9, 30))
	wantJoints(t, "one within the other", w, front(), joint.Joint{0, 1, 200, 200, 20, 50})
}

func TestJointsBetween(t *testing.T) {
	pair := []placed{brick("a", 0, 0), brick("b", 216, 0)}
	open := joint.Joint{0, 1, 200, 216, 0, 80}
	wall := func(third placed) wall { return on(deepDown(), append(slices.Clone(pair), third)...) }
	wantJoints(t, "all of it", wall(boxed("c", 200, 0, 16, 80)), front(), joint.Joint{0, 2, 200, 200, 0, 80}, joint.Joint{2, 1, 216, 216, 0, 80})
	wantJoints(t, "a bit", wall(boxed("c", 205, 79, 1, 90)), front(), joint.Joint{0, 2, 200, 205, 79, 80}, joint.Joint{2, 1, 206, 216, 79, 80})
	wantJoints(t, "through", wall(in(place.Through, boxed("c", 201, 40, 1, 1))), front(), joint.Joint{0, 2, 200, 201, 40, 41}, joint.Joint{2, 1, 202, 216, 40, 41})
	wantJoints(t, "the other skin", wall(in(place.Back, boxed("c", 201, 40, 1, 1))), front(), open)
	wantJoints(t, "above", wall(boxed("c", 201, 80, 1, 10)), front(), open)
	wantJoints(t, "below", wall(boxed("c", 201, -10, 1, 10)), front(), open)
	// A stone fills only what both have in common.
	w := on(deepDown(), brick("a", 0, 0), brick("b", 216, 40), boxed("c", 205, 10, 1, 30))
	wantJoints(t, "below what both have in common", w, front(), joint.Joint{0, 2, 200, 205, 10, 40}, joint.Joint{0, 1, 200, 216, 40, 80})
	// Over a joint without a width nothing lies.
	w = on(deepDown(), brick("a", 0, 0), brick("b", 200, 0), put(shaped("c", path(0, 0, 3, 1, 0, 1)...), 199, 80, place.Front))
	wantJoints(t, "no width", w, front(), joint.Joint{0, 1, 200, 200, 0, 80})
	// An extent is between, though its stone is not.
	hook := put(shaped("c", path(0, 0, 16, 80, 0, 80)...), 200, 78, place.Front)
	wantJoints(t, "a tip", wall(hook), front(), joint.Joint{0, 2, 200, 200, 78, 80}, joint.Joint{2, 1, 216, 216, 78, 80})
}

func TestJointsSkins(t *testing.T) {
	back := front(func(r *rules) { r.Skin = place.Back })
	skins := []uint8{place.Front, place.Back, place.Through}
	for _, a := range skins {
		for _, b := range skins {
			w := on(flat(), in(a, brick("a", 0, 0)), in(b, brick("b", 200, 0)))
			j := joint.Joint{0, 1, 200, 200, 0, 80}
			for _, r := range []rules{front(), back} {
				what := fmt.Sprint(a, b, r.Skin)
				if (a == r.Skin || a == place.Through) && (b == r.Skin || b == place.Through) {
					wantJoints(t, what, w, r, j)
				} else {
					wantJoints(t, what, w, r)
				}
			}
		}
	}
}

// halves are two stones with the same extent.
func halves(low, high string, x, z int) (a, b placed) {
	a = put(shaped(low, path(0, 0, 20, 0, 20, 20)...), x, z, place.Front)
	b = put(shaped(high, path(0, 0, 20, 20, 0, 20)...), x, z, place.Front)
	return a, b
}

func TestJointsOrder(t *testing.T) {
	a, b := halves("a", "b", 0, 0)
	c, d := halves("c", "d", 20, 0)
	e, f := boxed("e", 80, 0, 9, 9), boxed("f", 90, 0, 9, 9)
	g, h := boxed("g", -80, 5, 9, 9), boxed("h", -70, 5, 9, 9)
	w := on(deepDown(), h, f, d, b, g, e, c, a)
	wantJoints(t, "by From, Left, A, B", w, front(func(r *rules) { r.Wide = 2 }),
		joint.Joint{3, 2, 20, 20, 0, 20}, joint.Joint{3, 6, 20, 20, 0, 20}, joint.Joint{7, 2, 20, 20, 0, 20}, joint.Joint{7, 6, 20, 20, 0, 20},
		joint.Joint{5, 1, 89, 90, 0, 9}, joint.Joint{4, 0, -71, -70, 5, 14})
}

// Turned stones have other extents.
func TestJointsTurned(t *testing.T) {
	a, b := brick("a", 0, 0), brick("b", 90, 0)
	a.Way, b.Way = 1, 3
	wantJoints(t, "upright", on(flat(), a, b), front(), joint.Joint{0, 1, 80, 90, 0, 200})
}

func TestJointsMany(t *testing.T) {
	found := 0
	randomWalls(t, 71, 2000, func(_ *rand.Rand, w wall, r rules) {
		var got joints
		wantKept(t, "Joints", w, func() { got = ok[joints](t)(joint.Joints(w, r)) })
		wantList(t, fmt.Sprint(w, r), got, jointsOf(w, r)...)
		found += len(got)
	})
	if found < 4000 {
		t.Errorf("%d joints", found)
	}
}

// slivers lie upon each other at both sides of a line: each of the left ones has
// a joint with each of the right ones.
func slivers() wall {
	w := on(deepDown())
	for i := range api.MaxWall {
		shape := path(0, 0, api.MaxSide, api.MaxSide-30, api.MaxSide, api.MaxSide, 0, 30)
		p := put(shaped(fmt.Sprint("s", i), shape...), i%2*api.MaxSide, i/2*30, place.Front)
		w.Stones = append(w.Stones, p)
	}
	return w
}

// As many joints as there may be.
func TestJointsGreatest(t *testing.T) {
	w, r := slivers(), front(func(r *rules) { r.Step, r.Lap, r.Run = api.MaxLength, api.MaxLength, api.MaxLength })
	got := ok[joints](t)(joint.Joints(w, r))
	want(t, "joints", len(got), api.MaxWall/2*api.MaxWall/2)
	wantList(t, "joints", got, jointsOf(w, r)...)
	roots := ok[[]int](t)(joint.Roots(w, r))
	want(t, "roots", slices.Max(roots), 0)
	want(t, "proved", joint.ProveRuns(w, r, roots), true)
	run, height, e := joint.Longest(w, r)
	wantErr(t, "Longest", e, api.OK)
	want(t, "height", height, got[run[len(run)-1]].To)
	l := ok[[]finding](t)(joint.Survey(w, r))
	want(t, "traced", slices.ContainsFunc(l, func(f finding) bool { return f.Kind == joint.Traced }), true)
}

// P1: the errors of walls come before those of rules, and these before all
// others; with an error there is no other result.
func TestInvalid(t *testing.T) {
	for e, l := range badWalls() {
		for _, w := range l {
			wantError(t, fmt.Sprint(w), w, front(), e)
			wantError(t, fmt.Sprint("bad rules, too: ", w), w, rules{}, e)
			n, got := joint.Bare(w, 0, 10, 0, 10)
			want(t, fmt.Sprint("Bare ", w), []any{n, got}, []any{0, e})
			n, got = joint.Bare(w, 0, 0, 0, 0)
			want(t, fmt.Sprint("Bare, bad ranges, too: ", w), []any{n, got}, []any{0, e})
		}
	}
	for what, r := range badRules() {
		wantError(t, what, five(), r, api.ErrArg)
		wantError(t, what+", no stones", on(flat()), r, api.ErrArg)
	}
}

func wantError(t *testing.T, what string, w wall, r rules, e api.Errno) {
	t.Helper()
	l, got := joint.Joints(w, r)
	want(t, what+": Joints", []any{len(l), got}, []any{0, e})
	roots, got := joint.Roots(w, r)
	want(t, what+": Roots", []any{len(roots), got}, []any{0, e})
	run, height, got := joint.Longest(w, r)
	want(t, what+": Longest", []any{len(run), height, got}, []any{0, 0, e})
	want(t, what+": ProveRuns", joint.ProveRuns(w, r, nil), false)
	want(t, what+": ProveRuns", joint.ProveRuns(w, r, []int{0, 0}), false)
	courses, got := joint.Courses(w, r)
	want(t, what+": Courses", []any{len(courses), got}, []any{0, e})
	findings, got := joint.Survey(w, r)
	want(t, what+": Survey", []any{len(findings), got}, []any{0, e})
}

// P5.10: a wall that is moved has the same findings, and its joints are moved.
func TestMoved(t *testing.T) {
	randomWalls(t, 72, 500, func(x *rand.Rand, w wall, r rules) {
		by := stone.Point{X: x.Intn(200) - 100, Z: x.Intn(200) - 100}
		other := moved(w, by.X, by.Z)
		what := fmt.Sprint(w, r, by)
		l := ok[joints](t)(joint.Joints(w, r))
		for k := range l {
			l[k].Left, l[k].Right, l[k].From, l[k].To = l[k].Left+by.X, l[k].Right+by.X, l[k].From+by.Z, l[k].To+by.Z
		}
		wantList(t, what, ok[joints](t)(joint.Joints(other, r)), l...)
		wantList(t, what, ok[[]finding](t)(joint.Survey(other, r)), ok[[]finding](t)(joint.Survey(w, r))...)
	})
}
