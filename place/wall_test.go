package place_test

import (
	"fmt"
	"math/rand"
	"slices"
	"testing"

	"copestone/api"
	"copestone/place"
	"copestone/stone"
	"copestone/whole"
)

// dropped returns random walls, which are valid.
func dropped(t *testing.T, seed int64, count int) []wall {
	t.Helper()
	r := rand.New(rand.NewSource(seed))
	l := []wall{three(), on(flat())}
	for range count {
		l = append(l, randomWall(t, r, 2+r.Intn(9), 1+r.Intn(8)))
	}
	return append(l, randomWall(t, r, 300, 30))
}

// badWalls returns walls that are not valid, and their errors.
func badWalls() map[string]struct {
	w wall
	e api.Errno
} {
	l := map[string]struct {
		w wall
		e api.Errno
	}{}
	add := func(what string, e api.Errno, ground []point, stones ...placed) {
		l[what] = struct {
			w wall
			e api.Errno
		}{on(ground, stones...), e}
	}
	long := path(-api.MaxFar, 0, api.MaxFar, 0)
	a, twin := brick("a", 0, 0), brick("a", 400, 0)
	for what, ground := range badGrounds() {
		add(what, api.ErrArg, ground)
		add(what+", too many stones", api.ErrArg, ground, many(api.MaxWall+1)...)
	}
	add("too many stones", api.ErrLimit, long, many(api.MaxWall+1)...)
	add("too many stones, one is not valid", api.ErrLimit, long, append(many(api.MaxWall), placed{})...)
	for what, p := range broken() {
		add(what, api.ErrArg, long, p)
		add(what+", and a name twice before", api.ErrTwice, long, a, twin, p)
		add(what+", and a name twice behind", api.ErrArg, long, a, p, twin)
		add(what+", and a stone in another one", api.ErrArg, long, a, brick("b", 1, 0), p)
	}
	add("a name twice", api.ErrTwice, flat(), a, twin)
	add("a name twice, and into", api.ErrTwice, flat(), a, a)
	add("a name twice, far behind", api.ErrTwice, long, append(many(80), brick("m0", 0, 100))...)
	add("a name twice, in the other skin", api.ErrTwice, flat(), a, put(box("a", 5, 5), 0, 300, 0, place.Back))
	add("over the left end", api.ErrArg, flat(), brick("b", -1001, 0))
	add("over the right end", api.ErrArg, flat(), brick("b", 801, 0))
	add("over the end, by its way", api.ErrArg, flat(), put(box("b", 80, 200), 1, 801, 0, place.Front))
	add("over the end, and a name twice", api.ErrArg, flat(), a, brick("a", 801, 0))
	add("over the end, and into the ground", api.ErrArg, flat(), brick("b", 801, -1))
	add("in the ground", api.ErrVoid, flat(), brick("b", 0, -1))
	add("far below the ground", api.ErrVoid, flat(), brick("b", 0, -9000))
	add("on the top of a hill", api.ErrVoid, path(-1000, 0, 50, 1, 1000, 0), a)
	add("on a hill between two corners", api.ErrVoid, path(-1000, 0, 0, 0, 1000, 1), a)
	add("in another stone", api.ErrVoid, flat(), a, brick("b", 199, 0))
	add("in another stone, a bit", api.ErrVoid, flat(), a, brick("b", 199, 79))
	add("in a through stone", api.ErrVoid, flat(), put(box("a", 9, 9), 0, 0, 0, place.Through), put(box("b", 9, 9), 0, 8, 0, place.Back))
	add("a through stone in another one", api.ErrVoid, flat(), put(box("a", 9, 9), 0, 0, 0, place.Front), put(box("b", 9, 9), 0, 8, 0, place.Through))
	return l
}

func badGrounds() map[string][]point {
	l := map[string][]point{
		"no ground":               nil,
		"an empty ground":         {},
		"a point of ground":       path(0, 0),
		"a ground that stops":     path(0, 0, 0, 1),
		"a ground that returns":   path(0, 0, 5, 0, 4, 0),
		"a ground from the right": path(5, 0, 0, 0),
	}
	long := many(api.MaxGround + 1)
	var ground []point
	for _, p := range long {
		ground = append(ground, p.At)
	}
	l["a long ground"] = ground
	for _, n := range append([]int{api.MaxFar + 1, -api.MaxFar - 1}, far...) {
		l[fmt.Sprint("a ground from ", n)] = path(n, 0, 7, 0)
		l[fmt.Sprint("a ground to ", n)] = path(7, 0, n, 0)
		l[fmt.Sprint("a height ", n)] = path(0, 0, 5, n, 7, 0)
	}
	return l
}

// P3.4: Check.

func TestCheck(t *testing.T) {
	hill := path(-1000, 0, 50, 1, 1000, 0)
	long := path(-api.MaxFar, 0, api.MaxFar, 0)
	var greatest []point
	for i := range api.MaxGround {
		greatest = append(greatest, at(i, -i%2*api.MaxFar))
	}
	for what, w := range map[string]wall{
		"the chapter's":            three(),
		"no stones":                on(flat()),
		"the longest ground":       on(path(-api.MaxFar, -api.MaxFar, api.MaxFar, api.MaxFar)),
		"a ground of many corners": on(greatest),
		"as many as there may be":  on(long, many(api.MaxWall)...),
		"from end to end":          on(flat(), brick("a", -1000, 0), brick("b", 800, 0)),
		"on a hill":                on(hill, brick("a", 0, 1)),
		"on a slope, by a point":   on(path(0, 0, 400, 400), brick("a", 0, 200)),
		"in the air":               on(flat(), brick("a", 0, 5000)),
		"in different skins":       on(flat(), brick("a", 0, 0), put(box("b", 200, 80), 0, 0, 0, place.Back)),
		"tips that touch":          on(flat(), diamond("a", 3, 0, 0), diamond("b", 3, 6, 0), diamond("c", 3, 3, 3)),
	} {
		wantErr(t, what, place.Check(w), api.OK)
	}
	for what, c := range badWalls() {
		wantErr(t, what, place.Check(c.w), c.e)
	}
}

// errorOf follows the table of the chapter, for walls whose ground is valid.
func errorOf(w wall) api.Errno {
	ground := groundOf(w.Ground)
	names := map[string]bool{}
	var l []body
	for _, p := range w.Stones {
		if place.CheckPlaced(p) != api.OK {
			return api.ErrArg
		}
		b := bodyOf(p)
		if b.from < ground.from || b.to > ground.to {
			return api.ErrArg
		}
		if names[p.Stone.Name] {
			return api.ErrTwice
		}
		names[p.Stone.Name] = true
		l = append(l, b)
	}
	for i, b := range l {
		if least, _ := leastGap(b, ground); least.Sign() < 0 {
			return api.ErrVoid
		}
		for _, c := range l[:i] {
			if b.meets(c) && relationOf(b, c) == place.Into {
				return api.ErrVoid
			}
		}
	}
	return api.OK
}

func TestCheckMany(t *testing.T) {
	r := rand.New(rand.NewSource(41))
	seen := map[api.Errno]int{}
	for range 3000 {
		size := 2 + r.Intn(8)
		w := on(randomGround(r, size))
		for range 1 + r.Intn(4) {
			p := randomPlaced(r, fmt.Sprint("s", r.Intn(30)), size)
			p.At = at(r.Intn(4*size)-size-r.Intn(2), 2+r.Intn(3*size))
			w.Stones = append(w.Stones, p)
		}
		e := place.Check(w)
		seen[e]++
		wantErr(t, fmt.Sprint(w), e, errorOf(w))
	}
	for _, e := range []api.Errno{api.OK, api.ErrArg, api.ErrTwice, api.ErrVoid} {
		if seen[e] < 30 {
			t.Errorf("%v: %d times", e, seen[e])
		}
	}
	for _, w := range dropped(t, 42, 100) {
		wantKept(t, "Check", w, func() { wantErr(t, fmt.Sprint(w), place.Check(w), api.OK) })
		wantErr(t, fmt.Sprint(w), errorOf(w), api.OK)
	}
}

// P3.5: Beds, Way.

func wantBed(t *testing.T, what string, got place.Bed, by int, from, to string, fromWay, toWay point) {
	t.Helper()
	want(t, what, []any{got.By, got.From.Text(), got.To.Text(), got.FromWay, got.ToWay}, []any{by, from, to, fromWay, toWay})
}

// bedAlone returns the only bed of the last stone.
func bedAlone(t *testing.T, w wall, pin int) place.Bed {
	t.Helper()
	l := ok[[]place.Bed](t)(place.Beds(w, len(w.Stones)-1, pin))
	if len(l) != 1 {
		t.Fatalf("%v: %d beds, want 1", w, len(l))
	}
	return l[0]
}

func TestBeds(t *testing.T) {
	w := three()
	level := at(1, 0)
	l := ok[[]place.Bed](t)(place.Beds(w, 2, 0))
	want(t, "beds of c", len(l), 2)
	wantBed(t, "c on a", l[0], 0, "(100, 80)", "(200, 80)", level, level)
	wantBed(t, "c on b", l[1], 1, "(200, 80)", "(300, 80)", level, level)
	l = ok[[]place.Bed](t)(place.Beds(w, 0, 0))
	want(t, "beds of a", len(l), 1)
	wantBed(t, "a on the ground", l[0], -1, "(0, 0)", "(200, 0)", level, level)
}

func TestBedsGroundFirst(t *testing.T) {
	w := on(path(0, 0, 10, 0, 11, 5, 20, 5), put(box("a", 5, 5), 0, 0, 0, place.Back), put(box("b", 2, 5), 0, 8, 0, place.Through), put(box("c", 5, 5), 0, 2, 0, place.Front), put(box("d", 20, 3), 0, 0, 5, place.Through))
	l := ok[[]place.Bed](t)(place.Beds(w, 3, 0))
	want(t, "count", len(l), 4)
	wantBed(t, "ground", l[0], -1, "(11, 5)", "(20, 5)", at(1, 0), at(1, 0))
	wantBed(t, "a", l[1], 0, "(0, 5)", "(5, 5)", at(1, 0), at(1, 0))
	wantBed(t, "b", l[2], 1, "(8, 5)", "(10, 5)", at(1, 0), at(1, 0))
	wantBed(t, "c", l[3], 2, "(2, 5)", "(7, 5)", at(1, 0), at(1, 0))
}

// What is no bed: another skin, an end alone, what is too far below, or above.
func TestNoBeds(t *testing.T) {
	beside := put(box("b", 200, 80), 0, 0, 0, place.Back)
	for what, w := range map[string]wall{
		"another skin":     on(path(-1000, -1000, 1000, -1000), beside, brick("a", 0, 80)),
		"an end alone":     on(path(-1000, -1000, 1000, -1000), brick("b", -200, 0), brick("a", 0, 80)),
		"a side":           on(path(-1000, -1000, 1000, -1000), brick("b", -200, 0), brick("a", 0, 0)),
		"too far below":    on(path(-1000, -1000, 1000, -1000), brick("b", 0, 0), brick("a", 0, 86)),
		"above":            on(path(-1000, -1000, 1000, -1000), brick("b", 0, 80), brick("a", 0, 0)),
		"ground far below": on(flat(), brick("a", 0, 6)),
		"through, too far": on(path(-1000, -1000, 1000, -1000), put(box("b", 9, 9), 0, 0, 0, place.Through), brick("a", 0, 15)),
	} {
		l := ok[[]place.Bed](t)(place.Beds(w, len(w.Stones)-1, 5))
		want(t, what, len(l), 0)
	}
}

func TestBedsOverPins(t *testing.T) {
	roof := put(shaped("r", path(0, 0, 300, 0, 150, 50)...), 0, 0, 0, place.Through)
	w := on(flat(), roof, brick("k", 100, 60))
	want(t, "too thin", len(ok[[]place.Bed](t)(place.Beds(w, 1, 9))), 0)
	wantBed(t, "one point", bedAlone(t, w, 10), 0, "(150, 60)", "(150, 60)", at(3, 1), at(3, 1))
	wantBed(t, "a part", bedAlone(t, w, 11), 0, "(147, 60)", "(153, 60)", at(3, 1), at(3, -1))
	wantBed(t, "to an end", bedAlone(t, w, 30), 0, "(100, 60)", "(210, 60)", at(3, 1), at(3, -1))
	wantBed(t, "all of it", bedAlone(t, w, 50), 0, "(100, 60)", "(270, 60)", at(3, 1), at(3, -1))
}

func TestBedsOfTips(t *testing.T) {
	// A tip in the notch between two slopes of the ground, or along one of them.
	notch := path(0, 15, 30, 0, 60, 10)
	wantBed(t, "in a notch", bedAlone(t, on(notch, diamond("d", 4, 26, 0)), 0), -1, "(30, 0)", "(30, 0)", at(2, -1), at(2, -1))
	wantBed(t, "over pins", bedAlone(t, on(notch, diamond("d", 4, 26, 0)), 1), -1, "(28, 2)", "(63/2, 3/2)", at(2, -1), at(3, 1))
	steep := path(0, 30, 30, 0, 60, 10)
	wantBed(t, "along a slope", bedAlone(t, on(steep, diamond("d", 4, 10, 16)), 0), -1, "(10, 20)", "(14, 16)", at(1, -1), at(1, -1))
	wantBed(t, "down to a corner", bedAlone(t, on(steep, diamond("d", 4, 26, 0)), 0), -1, "(26, 4)", "(30, 0)", at(1, -1), at(1, -1))
	// A tip over a tip, which is one point of the bed.
	w := on(flat(), diamond("d", 4, 0, 0), diamond("e", 4, 0, 8))
	wantBed(t, "tip over tip", bedAlone(t, w, 0), 0, "(4, 8)", "(4, 8)", at(1, 1), at(1, 1))
	wantBed(t, "over pins", bedAlone(t, w, 1), 0, "(7/2, 17/2)", "(9/2, 17/2)", at(1, 1), at(1, -1))
	// At the ends of a stone there is one edge alone.
	w = on(path(-1000, -100, 1000, -100), diamond("d", 4, 0, 0), put(shaped("v", path(0, 0, 4, 4, 0, 4)...), 0, 4, 8, place.Front))
	wantBed(t, "to the right end", bedAlone(t, w, 8), 0, "(4, 8)", "(8, 12)", at(1, -1), at(1, -1))
}

func TestDirectionsAtCorners(t *testing.T) {
	step := put(shaped("s", path(0, 0, 12, 0, 12, 2, 8, 4, 4, 4, 0, 2)...), 0, 0, 0, place.Front)
	board := func(wide, x, z int) placed { return put(box("k", wide, 1), 0, x, z, place.Front) }
	ground := path(-50, -50, 50, -50)
	for _, c := range []struct {
		p              placed
		pin            int
		from, to       string
		fromWay, toWay point
	}{
		{board(12, 0, 4), 0, "(4, 4)", "(8, 4)", at(1, 0), at(1, 0)},
		{board(12, 0, 4), 1, "(2, 4)", "(10, 4)", at(2, 1), at(2, -1)},
		{board(12, 0, 4), 2, "(0, 4)", "(12, 4)", at(2, 1), at(2, -1)},
		{board(30, -9, 4), 2, "(0, 4)", "(12, 4)", at(2, 1), at(2, -1)},
		{board(4, 4, 4), 2, "(4, 4)", "(8, 4)", at(1, 0), at(1, 0)},
		{board(2, 2, 4), 1, "(2, 4)", "(4, 4)", at(2, 1), at(2, 1)},
		{board(2, 2, 4), 0, "(4, 4)", "(4, 4)", at(2, 1), at(2, 1)},
		{board(2, 8, 4), 0, "(8, 4)", "(8, 4)", at(1, 0), at(1, 0)},
		{board(2, 8, 4), 1, "(8, 4)", "(10, 4)", at(2, -1), at(2, -1)},
		{board(8, 4, 4), 1, "(4, 4)", "(10, 4)", at(1, 0), at(2, -1)},
	} {
		w := on(ground, step, c.p)
		wantBed(t, fmt.Sprint(c), bedAlone(t, w, c.pin), 0, c.from, c.to, c.fromWay, c.toWay)
	}
}

// bodiesOf returns all stones, and the ground behind them.
func bodiesOf(w wall) (stones []body, ground body) {
	for _, p := range w.Stones {
		stones = append(stones, bodyOf(p))
	}
	return stones, groundOf(w.Ground)
}

// lower returns what a stone may lie on: the ground (-1), or a stone.
func lower(stones []body, ground body, by int) body {
	if by < 0 {
		return ground
	}
	return stones[by]
}

// P3.11 as well: gaps at both ends, thicker pins, the common range.
func TestBedsOfMany(t *testing.T) {
	found := 0
	for n, w := range dropped(t, 43, 150) {
		stones, ground := bodiesOf(w)
		for i, a := range stones {
			pin := []int{0, 1, 2, 5, api.MaxPin}[n%5]
			var l, thicker []place.Bed
			wantKept(t, "Beds", w, func() { l = ok[[]place.Bed](t)(place.Beds(w, i, pin)) })
			thicker = ok[[]place.Bed](t)(place.Beds(w, i, min(pin+2, api.MaxPin)))
			for by := -1; by < len(stones); by++ {
				if by == i || by >= 0 && !a.meets(stones[by]) {
					continue
				}
				b := lower(stones, ground, by)
				from, to, is := bedOf(a, b, pin)
				if !is {
					continue
				}
				found++
				if len(l) == 0 {
					t.Fatalf("%v: no bed of %d on %d with %d", w, i, by, pin)
				}
				what := fmt.Sprint(w, i, by, pin)
				ends := func(x rat) string { return "(" + x.RatString() + ", " + a.low(x).RatString() + ")" }
				wantBed(t, what, l[0], by, ends(from), ends(to), directionAt(b, from, to), directionAt(b, to, to))
				wantHolds(t, what, thicker, l[0])
				wantGapAtEnds(t, what, a, b, l[0], pin)
				l = l[1:]
			}
			want(t, fmt.Sprint("more beds ", w, i, pin), len(l), 0)
		}
	}
	if found < 500 {
		t.Errorf("%d beds", found)
	}
}

// wantHolds wants a bed on the same among the thicker ones, which has the thinner in it.
func wantHolds(t *testing.T, what string, thicker []place.Bed, thin place.Bed) {
	t.Helper()
	i := slices.IndexFunc(thicker, func(b place.Bed) bool { return b.By == thin.By })
	if i < 0 || thicker[i].From.X.Cmp(thin.From.X) > 0 || thicker[i].To.X.Cmp(thin.To.X) < 0 {
		t.Errorf("%s: a thicker pin gives %v", what, thicker)
	}
}

func wantGapAtEnds(t *testing.T, what string, a, b body, l place.Bed, pin int) {
	t.Helper()
	from, to, _ := common(a, b)
	for _, end := range []whole.V{l.From, l.To} {
		x := toRat(end.X)
		if !isBetween(from, to, x) || a.gapOver(b, x).Cmp(number(pin)) > 0 {
			t.Errorf("%s: the end %s", what, end.Text())
		}
	}
}

func TestWay(t *testing.T) {
	step := put(shaped("s", path(0, 0, 12, 0, 12, 2, 8, 4, 4, 4, 0, 2)...), 0, 0, 0, place.Front)
	w := on(path(-50, 0, 50, 0), step, put(box("k", 30, 1), 0, -9, 4, place.Front))
	for _, c := range []struct {
		x    string
		want point
	}{
		{"0", at(2, 1)}, {"1/7", at(2, 1)}, {"4", at(1, 0)}, {"5", at(1, 0)}, {"8", at(2, -1)}, {"9", at(2, -1)}, {"12", at(2, -1)},
	} {
		x, _ := whole.Parse(c.x)
		want(t, c.x, ok[point](t)(place.Way(w, 1, 0, 2, x)), c.want)
	}
	x := ints(10, 4)
	want(t, "the right end is at a corner", ok[point](t)(place.Way(on(w.Ground, step, put(box("k", 4, 1), 0, 0, 4, place.Front)), 1, 0, 2, x[1])), at(2, 1))
	want(t, "on the ground", ok[point](t)(place.Way(w, 0, -1, 0, x[0])), at(1, 0))
	hill := on(path(-50, 0, 0, 30, 50, 0), diamond("d", 5, -5, 30))
	want(t, "on a hill, at the right end", ok[point](t)(place.Way(hill, 0, -1, 0, whole.Of(0))), at(5, 3))
	want(t, "on a hill, before the right end", ok[point](t)(place.Way(hill, 0, -1, 1, whole.Of(0))), at(5, -3))
}

func TestWayOfMany(t *testing.T) {
	for n, w := range dropped(t, 44, 60) {
		stones, ground := bodiesOf(w)
		pin := []int{0, 3, 9}[n%3]
		for i, a := range stones {
			for by := -1; by < len(stones); by++ {
				b := lower(stones, ground, by)
				from, to, is := bedOf(a, b, pin)
				for _, x := range bends(a, b) {
					what := fmt.Sprint(w, i, by, pin, x)
					got, e := place.Way(w, i, by, pin, toR(x))
					if !is || by == i || by >= 0 && !a.meets(b) || x.Cmp(from) < 0 || x.Cmp(to) > 0 {
						want(t, what, []any{got, e}, []any{point{}, api.ErrOpen})
						continue
					}
					want(t, what, []any{got, e}, []any{directionAt(b, x, to), api.OK})
				}
			}
		}
	}
}

func TestBedErrors(t *testing.T) {
	w := three()
	for _, n := range append([]int{-1, 3}, far...) {
		l, e := place.Beds(w, n, 0)
		want(t, fmt.Sprint("Beds of ", n), []any{len(l), e}, []any{0, api.ErrRange})
		way, e := place.Way(w, n, 0, 0, whole.Of(150))
		want(t, fmt.Sprint("Way of ", n), []any{way, e}, []any{point{}, api.ErrRange})
	}
	for _, n := range append([]int{-2, 3}, far...) {
		way, e := place.Way(w, 2, n, 0, whole.Of(150))
		want(t, fmt.Sprint("Way on ", n), []any{way, e}, []any{point{}, api.ErrRange})
	}
	for _, n := range append([]int{-1, api.MaxPin + 1}, far...) {
		l, e := place.Beds(w, 0, n)
		want(t, fmt.Sprint("Beds with ", n), []any{len(l), e}, []any{0, api.ErrRange})
		way, e := place.Way(w, 2, 0, n, whole.Of(150))
		want(t, fmt.Sprint("Way with ", n), []any{way, e}, []any{point{}, api.ErrRange})
	}
	for _, c := range []struct {
		a, b int
		x    string
	}{
		{2, 0, "99"}, {2, 0, "599/6"}, {2, 0, "1201/6"}, {2, 0, "201"}, {2, 1, "199"}, {2, 2, "150"}, {2, -1, "150"}, {0, 2, "150"}, {0, 1, "200"}, {0, -1, "-1/9"},
	} {
		x, _ := whole.Parse(c.x)
		way, e := place.Way(w, c.a, c.b, 0, x)
		want(t, fmt.Sprint(c), []any{way, e}, []any{point{}, api.ErrOpen})
	}
}

// P3.6: Drop.

func TestDrop(t *testing.T) {
	w := three()
	for _, c := range []struct {
		p    placed
		want int
	}{
		{brick("n", 50, 300), 140},
		{brick("n", 50, 160), 0},
		{brick("n", -200, 300), 300},
		{brick("n", -199, 300), 220},
		{brick("n", -100, 300), 220},
		{brick("n", 300, 300), 220},
		{brick("n", 400, 300), 300},
		{put(box("n", 200, 80), 0, 50, 300, place.Back), 300},
		{put(box("n", 200, 80), 0, 50, 300, place.Through), 140},
		{put(box("n", 200, 80), 1, 20, 300, place.Front), 220},
		{put(box("n", 200, 80), 1, 21, 300, place.Front), 140},
		{brick("n", 800, 0), 0},
		{brick("n", 0, api.MaxFar), api.MaxFar - 160},
	} {
		want(t, fmt.Sprint(c.p), ok[int](t)(place.Drop(w, c.p)), c.want)
	}
}

// A stone can be moved down below another one, and stops at whole numbers.
func TestDropBelowAndAtSlopes(t *testing.T) {
	w := on(flat(), brick("k", 0, 500))
	want(t, "below", ok[int](t)(place.Drop(w, brick("n", 50, 300))), 300)
	want(t, "touching from below", ok[int](t)(place.Drop(w, brick("n", 50, 420))), 420)
	slope := on(path(0, 0, 7, 3, 14, 0))
	for x, by := range []int{8, 8, 7, 7, 7, 7, 7, 7, 7, 7, 8, 8} {
		p := put(box("n", 3, 3), 0, x, 10, place.Front)
		want(t, fmt.Sprint("over a slope, at ", x), ok[int](t)(place.Drop(slope, p)), by)
	}
	low := on(path(0, -api.MaxFar, 200, -api.MaxFar+1))
	want(t, "far down", ok[int](t)(place.Drop(low, brick("n", 0, api.MaxFar))), 2*api.MaxFar-1)
}

// wantDrop wants a place to which the stone can be moved, and no farther.
func wantDrop(t *testing.T, w wall, p placed, by int) {
	t.Helper()
	stones, ground := bodiesOf(w)
	a := bodyOf(p)
	least, _ := leastGap(a, ground)
	for _, b := range stones {
		if a.meets(b) && relationOf(a, b) == place.Above {
			g, _ := leastGap(a, b)
			least = lesser(least, g)
		}
	}
	if rest := sub(least, number(by)); rest.Sign() < 0 || rest.Cmp(number(1)) >= 0 {
		t.Errorf("%v, %v: %d, but %s is free", w, p, by, least.RatString())
	}
}

// P3.10 as well.
func TestDropMany(t *testing.T) {
	r := rand.New(rand.NewSource(45))
	for _, w := range dropped(t, 46, 200) {
		p := randomPlaced(r, "n", 9)
		p.At.X = w.Ground[0].X + r.Intn(w.Ground[len(w.Ground)-1].X-w.Ground[0].X-spread(p)+1)
		p.At.Z += r.Intn(60)
		more := w
		more.Stones = append(slices.Clone(w.Stones), p)
		var by int
		var e api.Errno
		wantKept(t, "Drop", w, func() { by, e = place.Drop(w, p) })
		wantErr(t, fmt.Sprint(w, p), e, place.Check(more))
		if e != api.OK {
			want(t, "with an error", by, 0)
			continue
		}
		wantDrop(t, w, p, by)
		wantLies(t, w, p, by)
	}
}

func wantLies(t *testing.T, w wall, p placed, by int) {
	t.Helper()
	p.At.Z -= by
	w.Stones = append(slices.Clone(w.Stones), p)
	wantErr(t, fmt.Sprint("moved down: ", w), place.Check(w), api.OK)
	if l := ok[[]place.Bed](t)(place.Beds(w, len(w.Stones)-1, 1)); len(l) == 0 {
		t.Errorf("%v: no bed", w)
	}
	w.Stones = w.Stones[:len(w.Stones)-1]
	want(t, "again", ok[int](t)(place.Drop(w, p)), 0)
}

func TestDropErrors(t *testing.T) {
	w := three()
	full := on(path(-api.MaxFar, 0, api.MaxFar, 0), many(api.MaxWall)...)
	want(t, "over as many stones as there may be", ok[int](t)(place.Drop(full, brick("n", 100, 100))), 20)
	for _, c := range []struct {
		p placed
		e api.Errno
	}{
		{placed{}, api.ErrArg},
		{brick("n", 801, 300), api.ErrArg},
		{brick("n", -1001, 300), api.ErrArg},
		{brick("a", 801, 300), api.ErrArg},
		{brick("a", 0, 300), api.ErrTwice},
		{brick("c", 0, -300), api.ErrTwice},
		{brick("b", 0, 0), api.ErrTwice},
		{brick("n", 0, -1), api.ErrVoid},
		{brick("n", -200, -1), api.ErrVoid},
		{brick("n", 0, -900), api.ErrVoid},
		{brick("n", 0, 79), api.ErrVoid},
		{brick("n", 299, 80), api.ErrVoid},
		{put(box("n", 200, 80), 0, 0, 79, place.Through), api.ErrVoid},
		{put(box("n", 200, 80), 0, 0, 79, place.Back), api.OK},
	} {
		by, e := place.Drop(w, c.p)
		wantErr(t, fmt.Sprint(c.p), e, c.e)
		if e != api.OK {
			want(t, fmt.Sprint(c.p), by, 0)
		}
	}
	for what, p := range broken() {
		by, e := place.Drop(w, p)
		want(t, what, []any{by, e}, []any{0, api.ErrArg})
	}
}

// P3.7: Height, Cover.

func TestHeight(t *testing.T) {
	w := three()
	w.Stones = append(w.Stones, put(box("t", 50, 30), 0, -500, 200, place.Through), put(box("u", 50, 10), 0, 250, 300, place.Back))
	for _, c := range []struct {
		skin    uint8
		x, want string
	}{
		{place.Front, "250", "160"},
		{place.Front, "100", "160"},
		{place.Front, "299/3", "80"},
		{place.Front, "300", "160"},
		{place.Front, "400", "80"},
		{place.Front, "401", "0"},
		{place.Front, "-1000", "0"},
		{place.Front, "1000", "0"},
		{place.Front, "-475", "230"},
		{place.Back, "-475", "230"},
		{place.Back, "-500", "230"},
		{place.Back, "100", "0"},
		{place.Back, "275", "310"},
	} {
		x, _ := whole.Parse(c.x)
		want(t, fmt.Sprint(c), ok[whole.R](t)(place.Height(w, c.skin, x)).Text(), c.want)
	}
	hill := on(path(-7, 0, 0, 5, 7, -3), diamond("d", 2, 0, 50))
	for x, want := range map[string]string{"-7": "0", "-1": "30/7", "-1/7": "240/49", "0": "52", "3": "53", "4": "52", "5": "-5/7", "7": "-3"} {
		at, _ := whole.Parse(x)
		if got := ok[whole.R](t)(place.Height(hill, place.Front, at)).Text(); got != want {
			t.Errorf("at %s: %s, want %s", x, got, want)
		}
	}
}

func TestHeightMany(t *testing.T) {
	for _, w := range dropped(t, 47, 100) {
		stones, ground := bodiesOf(w)
		for _, skin := range []uint8{place.Front, place.Back} {
			for n := 2 * ground.from; n <= 2*ground.to; n += 1 + (ground.to-ground.from)/20 {
				x := q(n, 2)
				high := ground.up(x)
				for _, b := range stones {
					if up := b.up(x); up != nil && b.isIn(skin) {
						high = greater(high, up)
					}
				}
				wantR(t, fmt.Sprint(w, skin, x), ok[whole.R](t)(place.Height(w, skin, toR(x))), high)
			}
		}
	}
}

func TestHeightErrors(t *testing.T) {
	for _, skin := range []uint8{0, place.Through, 4, 255} {
		for _, x := range ints(0, 5000) {
			high, e := place.Height(three(), skin, x)
			want(t, fmt.Sprint(skin), []any{high, e}, []any{whole.R{}, api.ErrArg})
		}
	}
	for _, text := range []string{"-1001", "1001", "-1000001/1000", "1000001/1000", "1" + fmt.Sprintf("%0500d", 0)} {
		x, _ := whole.Parse(text)
		high, e := place.Height(three(), place.Front, x)
		want(t, text, []any{high, e}, []any{whole.R{}, api.ErrOpen})
	}
}

func TestCover(t *testing.T) {
	w := three()
	w.Stones = append(w.Stones, put(box("t", 10, 10), 0, -500, 0, place.Through), put(box("u", 10, 10), 0, 0, 300, place.Back), diamond("d", 2, 600, 0))
	for _, c := range []struct {
		skin uint8
		p, q point
		want string
	}{
		{place.Front, at(0, 0), at(300, 160), "40000"},
		{place.Front, at(0, 0), at(400, 160), "48000"},
		{place.Front, at(-1, -1), at(401, 161), "48000"},
		{place.Front, at(50, 70), at(350, 90), "5000"},
		{place.Front, at(100, 80), at(101, 81), "1"},
		{place.Front, at(0, 80), at(100, 500), "0"},
		{place.Back, at(-1000, -1000), at(1000, 1000), "200"},
		{place.Front, at(-495, 3), at(1000, 4), "406"},
		{place.Front, at(600, 0), at(604, 4), "8"},
		{place.Front, at(600, 0), at(601, 4), "1"},
		{place.Front, at(600, 2), at(603, 3), "5/2"},
		{place.Front, at(601, 1), at(603, 3), "4"},
		{place.Front, at(602, 3), at(699, 9), "1/2"},
		{place.Front, at(-api.MaxFar, -api.MaxFar), at(api.MaxFar, api.MaxFar), "48108"},
	} {
		want(t, fmt.Sprint(c), ok[whole.R](t)(place.Cover(w, c.skin, c.p, c.q)).Text(), c.want)
	}
	steep := on(flat(), put(shaped("s", path(0, 0, 7, 0, 0, 3)...), 0, 0, 0, place.Front))
	want(t, "a slope", ok[whole.R](t)(place.Cover(steep, place.Front, at(1, 0), at(6, 1))).Text(), "97/21")
}

// coverOf cuts each stone by the sides of the window.
func coverOf(w wall, skin uint8, p, q point) rat {
	window := []point{p, at(q.X, p.Z), q, at(p.X, q.Z)}
	stones, _ := bodiesOf(w)
	sum := number(0)
	for _, b := range stones {
		if b.isIn(skin) {
			sum = add(sum, sharedArea(b.corners, window))
		}
	}
	return sum
}

// P3.12 as well.
func TestCoverMany(t *testing.T) {
	r := rand.New(rand.NewSource(48))
	for _, w := range dropped(t, 49, 150) {
		for range 8 {
			p := at(r.Intn(30)-10, r.Intn(30)-5)
			q := at(p.X+2+r.Intn(20), p.Z+1+r.Intn(20))
			skin := uint8(1 + r.Intn(2))
			what := fmt.Sprint(w, skin, p, q)
			var got whole.R
			wantKept(t, "Cover", w, func() { got = ok[whole.R](t)(place.Cover(w, skin, p, q)) })
			wantR(t, what, got, coverOf(w, skin, p, q))
			if got.Cmp(whole.Of(int64((q.X-p.X)*(q.Z-p.Z)))) > 0 {
				t.Errorf("%s: %s is more than the window", what, got.Text())
			}
			middle := p.X + 1 + r.Intn(q.X-p.X-1)
			left := ok[whole.R](t)(place.Cover(w, skin, p, at(middle, q.Z)))
			right := ok[whole.R](t)(place.Cover(w, skin, at(middle, p.Z), q))
			want(t, what+": side by side", left.Add(right).Text(), got.Text())
		}
		for _, skin := range []uint8{place.Front, place.Back} {
			wantAll(t, w, skin)
		}
	}
}

// wantAll wants that a window around all stones covers their areas.
func wantAll(t *testing.T, w wall, skin uint8) {
	t.Helper()
	var twice int64
	for _, p := range w.Stones {
		if p.Skin == skin || p.Skin == place.Through {
			twice += ok[int64](t)(stone.Twice(p.Stone))
		}
	}
	got := ok[whole.R](t)(place.Cover(w, skin, at(-5000, -5000), at(5000, 50000)))
	wantR(t, fmt.Sprint("all of ", w), got, q(int(twice), 2))
}

func TestCoverErrors(t *testing.T) {
	none := whole.R{}
	for _, skin := range []uint8{0, place.Through, 4, 255} {
		area, e := place.Cover(three(), skin, at(5, 5), at(0, 0))
		want(t, fmt.Sprint(skin), []any{area, e}, []any{none, api.ErrArg})
	}
	windows := [][2]point{{at(0, 0), at(0, 5)}, {at(0, 0), at(5, 0)}, {at(1, 0), at(0, 5)}, {at(0, 1), at(5, 0)}, {at(5, 5), at(5, 5)}}
	for _, n := range append([]int{api.MaxFar + 1, -api.MaxFar - 1}, far...) {
		windows = append(windows, [2]point{at(n, 0), at(5, 5)}, [2]point{at(0, n), at(5, 5)}, [2]point{at(0, 0), at(n, 5)}, [2]point{at(0, 0), at(5, n)})
	}
	for _, l := range windows {
		area, e := place.Cover(three(), place.Front, l[0], l[1])
		want(t, fmt.Sprint(l), []any{area, e}, []any{none, api.ErrRange})
	}
}

// P1, for all with a wall: its errors come before any other one.
func TestInvalidWalls(t *testing.T) {
	for what, c := range badWalls() {
		l, e := place.Beds(c.w, -1, -1)
		want(t, "Beds, "+what, []any{len(l), e}, []any{0, c.e})
		way, e := place.Way(c.w, -1, -2, -1, whole.Of(5000))
		want(t, "Way, "+what, []any{way, e}, []any{point{}, c.e})
		by, e := place.Drop(c.w, placed{})
		want(t, "Drop, "+what, []any{by, e}, []any{0, c.e})
		high, e := place.Height(c.w, 0, whole.Of(-5000))
		want(t, "Height, "+what, []any{high, e}, []any{whole.R{}, c.e})
		area, e := place.Cover(c.w, 0, at(5, 5), at(0, 0))
		want(t, "Cover, "+what, []any{area, e}, []any{whole.R{}, c.e})
	}
}

// Stones and grounds with the greatest numbers that there may be.
func TestGreatestNumbers(t *testing.T) {
	for _, l := range largest() {
		for i := range l {
			l[i].At.X = min(l[i].At.X, api.MaxFar-spread(l[i]))
		}
		l[1].At.Z = api.MaxFar
		w := on(path(-api.MaxFar, -api.MaxFar, api.MaxFar-1, api.MaxFar-3999, api.MaxFar, -api.MaxFar), l[:]...)
		e := place.Check(w)
		wantErr(t, fmt.Sprint(w), e, errorOf(w))
		w.Stones = w.Stones[1:]
		p := l[0]
		p.Stone.Name = "p"
		if by, e := place.Drop(w, p); e == api.OK {
			wantDrop(t, w, p, by)
		}
	}
}
