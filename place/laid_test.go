package place_test

import (
	"fmt"
	"math/rand"
	"slices"
	"testing"

	"copestone/api"
	"copestone/place"
	"copestone/whole"
)

// some returns pairs of random laid stones, many of which touch.
func some(seed int64, count int) [][2]placed {
	r := rand.New(rand.NewSource(seed))
	var l [][2]placed
	for range count {
		size := 1 + r.Intn(9)
		l = append(l, [2]placed{randomPlaced(r, "a", size), randomPlaced(r, "b", size)})
	}
	for range count / 10 {
		l = append(l, [2]placed{randomPlaced(r, "a", 300), randomPlaced(r, "b", 300)})
	}
	return l
}

// largest returns stones with the greatest numbers that there may be.
func largest() [][2]placed {
	wedge := shaped("w", at(0, 0), at(1999, 1), at(2000, 2000), at(1, 1999))
	slim := shaped("s", at(0, 0), at(2000, 1999), at(1999, 1999))
	var l [][2]placed
	for _, x := range []int{-api.MaxFar, api.MaxFar - 1, api.MaxFar} {
		for _, z := range []int{-api.MaxFar, 0, api.MaxFar} {
			for way := range 8 {
				l = append(l, [2]placed{put(wedge, way, x, z, place.Front), put(slim, way/2, min(x+7, api.MaxFar), z, place.Back)})
				l = append(l, [2]placed{put(slim, way, x, z, place.Front), put(slim, 7-way, x, z, place.Back)})
			}
		}
	}
	return l
}

// P3.1: CheckPlaced, Corners, Sides.

func TestCheckPlaced(t *testing.T) {
	for way := range 8 {
		for _, skin := range []uint8{place.Front, place.Back, place.Through} {
			wantErr(t, "ways and skins", place.CheckPlaced(put(box("k", 3, 2), way, 0, 0, skin)), api.OK)
		}
	}
	for _, n := range []int{-api.MaxFar, api.MaxFar} {
		wantErr(t, "far in X", place.CheckPlaced(brick("k", n, 0)), api.OK)
		wantErr(t, "far in Z", place.CheckPlaced(brick("k", 0, n)), api.OK)
		wantErr(t, "far in both", place.CheckPlaced(put(box("k", api.MaxSide, api.MaxSide), 3, n, n, place.Back)), api.OK)
	}
	for what, p := range broken() {
		wantErr(t, what, place.CheckPlaced(p), api.ErrArg)
	}
}

func TestCorners(t *testing.T) {
	triangle := shaped("t", at(1, 0), at(6, 0), at(0, 3))
	for way, want := range [][]point{
		path(11, 20, 16, 20, 10, 23),
		path(10, 20, 13, 21, 13, 26),
		path(16, 20, 15, 23, 10, 23),
		path(10, 20, 13, 26, 10, 25),
		path(10, 20, 15, 20, 16, 23),
		path(13, 20, 13, 25, 10, 26),
		path(10, 20, 16, 23, 11, 23),
		path(13, 20, 10, 26, 10, 21),
	} {
		got := ok[[]point](t)(place.Corners(put(triangle, way, 10, 20, place.Back)))
		if !slices.Equal(got, want) {
			t.Errorf("way %d: %v, want %v", way, got, want)
		}
	}
	for _, l := range append(some(31, 100), largest()...) {
		want(t, fmt.Sprint(l[0]), ok[[]point](t)(place.Corners(l[0])), cornersOf(l[0]))
	}
	for what, p := range broken() {
		l, e := place.Corners(p)
		want(t, what, []any{len(l), e}, []any{0, api.ErrArg})
	}
}

func TestCornersAreNew(t *testing.T) {
	p := brick("k", 0, 0)
	l := ok[[]point](t)(place.Corners(p))
	l[0] = at(9, 9)
	want(t, "the stone", p.Stone.Shape[0], at(0, 0))
	want(t, "again", ok[[]point](t)(place.Corners(p))[0], at(0, 0))
}

func TestSides(t *testing.T) {
	tip := diamond("d", 2, 10, 20)
	slope := put(shaped("s", at(0, 0), at(3, 1), at(3, 3)), 0, 0, 0, place.Front)
	for _, c := range []struct {
		p       placed
		x       string
		low, up string
	}{
		{brick("k", 0, 0), "0", "0", "80"},
		{brick("k", 0, 0), "200", "0", "80"},
		{brick("k", -50, 7), "1/3", "7", "87"},
		{tip, "10", "22", "22"},
		{tip, "14", "22", "22"},
		{tip, "12", "20", "24"},
		{tip, "21/2", "43/2", "45/2"},
		{slope, "0", "0", "0"},
		{slope, "1", "1/3", "1"},
		{slope, "3", "1", "3"},
	} {
		x, _ := whole.Parse(c.x)
		low, up, e := place.Sides(c.p, x)
		want(t, fmt.Sprint(c.p.At, c.x), []any{low.Text(), up.Text(), e}, []any{c.low, c.up, api.OK})
	}
}

func TestSidesOfMany(t *testing.T) {
	for _, l := range append(some(32, 200), largest()...) {
		b := bodyOf(l[0])
		for _, x := range []rat{number(b.from), number(b.to), q(b.from+b.to, 2), q(3*b.from+b.to, 4), add(number(b.from), q(1, 97)), number(l[0].At.X + 1)} {
			low, up, e := place.Sides(l[0], toR(x))
			wantErr(t, fmt.Sprint(l[0], x), e, api.OK)
			wantR(t, fmt.Sprint("low ", l[0], x), low, b.low(x))
			wantR(t, fmt.Sprint("up ", l[0], x), up, b.up(x))
		}
	}
}

func TestSidesErrors(t *testing.T) {
	zero := whole.R{}
	for _, x := range []string{"-1", "-1/1000", "200001/1000", "201", "1" + fmt.Sprintf("%0400d", 0), "-1" + fmt.Sprintf("%0400d", 0)} {
		at, _ := whole.Parse(x)
		low, up, e := place.Sides(brick("k", 0, 0), at)
		want(t, x, []any{low, up, e}, []any{zero, zero, api.ErrOpen})
	}
	for what, p := range broken() {
		low, up, e := place.Sides(p, whole.Of(-5))
		want(t, what, []any{low, up, e}, []any{zero, zero, api.ErrArg})
	}
}

// P3.2: Relate, Gap.

func TestRelate(t *testing.T) {
	k := brick("k", 0, 0)
	for _, c := range []struct {
		a, b placed
		want uint8
	}{
		{k, k, place.Into},
		{k, brick("l", 200, 0), place.Left},
		{k, brick("l", 200, 500), place.Left},
		{k, brick("l", 900, 0), place.Left},
		{k, brick("l", -200, 0), place.Right},
		{k, brick("l", 199, 0), place.Into},
		{k, brick("l", 199, 79), place.Into},
		{k, brick("l", 199, 80), place.Below},
		{k, brick("l", 0, -80), place.Above},
		{k, brick("l", 0, -79), place.Into},
		{k, brick("l", -199, -500), place.Above},
		{diamond("d", 2, 0, 0), diamond("e", 2, 2, 2), place.Below},
		{diamond("d", 2, 0, 0), diamond("e", 2, -2, 2), place.Below},
		{diamond("d", 2, 0, 0), diamond("e", 2, 2, -2), place.Above},
		{diamond("d", 2, 0, 0), diamond("e", 2, 2, 1), place.Into},
		{diamond("d", 2, 0, 0), diamond("e", 2, 4, 0), place.Left},
		{diamond("d", 2, 0, 0), diamond("e", 2, 3, 1), place.Below},
		{diamond("d", 2, 0, 0), diamond("e", 2, 3, 0), place.Into},
	} {
		want(t, fmt.Sprint(c.a.At, c.b.At), ok[uint8](t)(place.Relate(c.a, c.b)), c.want)
	}
}

func TestRelateDoesNotAskForSkins(t *testing.T) {
	a, b := brick("k", 0, 0), brick("k", 10, 10)
	b.Skin = place.Back
	want(t, "into", ok[uint8](t)(place.Relate(a, b)), place.Into)
	b.At.Z = 100
	want(t, "gap", ok[whole.R](t)(gapAlone(b, a)), whole.Of(20))
}

func gapAlone(a, b placed) (whole.R, api.Errno) {
	g, _, e := place.Gap(a, b)
	return g, e
}

// P3.8 as well: either way, and moved.
func TestRelateMany(t *testing.T) {
	other := []uint8{0, place.Right, place.Left, place.Below, place.Above, place.Into}
	seen := map[uint8]int{}
	for _, l := range append(some(33, 6000), largest()...) {
		a, b := l[0], l[1]
		got := ok[uint8](t)(place.Relate(a, b))
		seen[got]++
		want(t, fmt.Sprint(a, b), got, relationOf(bodyOf(a), bodyOf(b)))
		want(t, fmt.Sprint("the other way ", a, b), ok[uint8](t)(place.Relate(b, a)), other[got])
		if a.At.X > api.MaxFar/2 || a.At.Z > api.MaxFar/2 {
			continue
		}
		for _, p := range []*placed{&a, &b} {
			p.At.X += 12345
			p.At.Z += 54321
		}
		want(t, fmt.Sprint("moved ", a, b), ok[uint8](t)(place.Relate(a, b)), got)
	}
	for kind := place.Left; kind <= place.Into; kind++ {
		if seen[kind] < 100 {
			t.Errorf("relation %d: %d times", kind, seen[kind])
		}
	}
}

func TestGap(t *testing.T) {
	a, c := brick("a", 0, 0), brick("c", 100, 80)
	roof := put(shaped("r", at(0, 0), at(300, 0), at(150, 50)), 0, -50, 0, place.Front)
	for _, x := range []struct {
		a, b      placed
		least, at string
	}{
		{c, a, "0", "100"},
		{a, c, "-160", "100"},
		{a, a, "-80", "0"},
		{brick("l", 199, 100), a, "20", "199"},
		{brick("l", -199, -300), a, "-380", "0"},
		{diamond("d", 2, 3, 90), a, "10", "5"},
		{brick("l", 0, 90), roof, "40", "100"},
		{brick("l", 110, 90), roof, "130/3", "110"},
		{brick("l", -150, 90), roof, "170/3", "50"},
		{diamond("d", 2, 0, 0), diamond("e", 2, 2, -2), "0", "2"},
		{diamond("d", 2, 0, 0), diamond("e", 2, -2, -2), "0", "0"},
		{diamond("d", 2, 0, 0), diamond("e", 2, -2, -1), "-1", "0"},
	} {
		least, at, e := place.Gap(x.a, x.b)
		want(t, fmt.Sprint(x.a.At, x.b.At), []any{least.Text(), at.Text(), e}, []any{x.least, x.at, api.OK})
	}
}

func TestGapMany(t *testing.T) {
	for _, l := range append(some(34, 3000), largest()...) {
		a, b := bodyOf(l[0]), bodyOf(l[1])
		least, at, e := place.Gap(l[0], l[1])
		wantLeast, wantAt := leastGap(a, b)
		if wantLeast == nil {
			want(t, fmt.Sprint(l), []any{least, at, e}, []any{whole.R{}, whole.R{}, api.ErrOpen})
			continue
		}
		wantErr(t, fmt.Sprint(l), e, api.OK)
		wantR(t, fmt.Sprint("gap ", l), least, wantLeast)
		wantR(t, fmt.Sprint("at ", l), at, wantAt)
	}
}

func TestGapWithoutCommonRange(t *testing.T) {
	for _, x := range []int{200, 201, -200, -5000} {
		least, at, e := place.Gap(brick("a", 0, 0), brick("b", x, 80))
		want(t, fmt.Sprint(x), []any{least, at, e}, []any{whole.R{}, whole.R{}, api.ErrOpen})
	}
}

// P3.3: Inside.

func TestInside(t *testing.T) {
	for _, c := range []struct {
		a, b placed
		want string
	}{
		{brick("a", 0, 0), brick("b", 150, 40), "(150, 60)"},
		{brick("b", 150, 40), brick("a", 0, 0), "(150, 60)"},
		{brick("a", 0, 0), brick("a", 0, 0), "(0, 40)"},
		{brick("a", 0, 0), brick("b", -199, 0), "(0, 40)"},
		{brick("a", 0, 0), brick("b", 199, 79), "(199, 159/2)"},
		{diamond("d", 2, 0, 0), diamond("e", 2, 1, 0), "(5/2, 2)"},
		{diamond("d", 2, 0, 0), diamond("e", 2, 1, 1), "(2, 3)"},
		{diamond("d", 2, 0, 0), diamond("e", 2, 3, 0), "(7/2, 2)"},
		{diamond("d", 2, 0, 0), put(box("b", 9, 1), 0, -2, 2, place.Back), "(1, 5/2)"},
	} {
		wantPair(t, fmt.Sprint(c.a, c.b), ok[whole.V](t)(place.Inside(c.a, c.b)), c.want)
	}
}

// insideOf looks at all x where anything bends, or where two edges cross.
func insideOf(a, b body) (x, z rat) {
	shared := func(x rat) (low, up rat) { return greater(a.low(x), b.low(x)), lesser(a.up(x), b.up(x)) }
	places := bends(a, b)
	from, to, _ := common(a, b)
	for _, e := range a.edges {
		for _, f := range b.edges {
			if c := crossing(e, f); c != nil && isBetween(from, to, c) {
				places = append(places, c)
			}
		}
	}
	var best rat
	for _, at := range unordered(places) {
		low, up := shared(at)
		if h := sub(up, low); best == nil || h.Cmp(best) > 0 {
			best, x = h, at
		}
	}
	low, up := shared(x)
	return x, quo(add(low, up), number(2))
}

// crossing returns the X at which the lines of two edges cross; nil, if they
// do not.
func crossing(e, f [2]point) rat {
	p, r := e[0], at(e[1].X-e[0].X, e[1].Z-e[0].Z)
	o, s := f[0], at(f[1].X-f[0].X, f[1].Z-f[0].Z)
	d := r.X*s.Z - r.Z*s.X
	if d == 0 {
		return nil
	}
	share := q((o.X-p.X)*s.Z-(o.Z-p.Z)*s.X, d)
	return add(number(p.X), mul(share, number(r.X)))
}

// P3.9 as well: strictly between underside and top of both.
func TestInsideMany(t *testing.T) {
	found := 0
	for _, l := range append(some(35, 3000), largest()...) {
		a, b := bodyOf(l[0]), bodyOf(l[1])
		got, e := place.Inside(l[0], l[1])
		if relationOf(a, b) != place.Into {
			want(t, fmt.Sprint(l), []any{got, e}, []any{whole.V{}, api.ErrVoid})
			continue
		}
		found++
		wantErr(t, fmt.Sprint(l), e, api.OK)
		x, z := insideOf(a, b)
		wantPair(t, fmt.Sprint(l), got, "("+x.RatString()+", "+z.RatString()+")")
		for _, p := range l {
			low, up, e := place.Sides(p, got.X)
			if e != api.OK || low.Cmp(got.Z) >= 0 || up.Cmp(got.Z) <= 0 {
				t.Errorf("%v: %s is not inside: from %s to %s, %v", p, got.Text(), low.Text(), up.Text(), e)
			}
		}
		wantPair(t, fmt.Sprint("the other way ", l), ok[whole.V](t)(place.Inside(l[1], l[0])), got.Text())
	}
	if found < 500 {
		t.Errorf("%d pairs get into each other", found)
	}
}

// P3.9: where the relation is not Into, no point is strictly inside of both.
func TestNothingInside(t *testing.T) {
	for _, l := range some(36, 400) {
		a, b := bodyOf(l[0]), bodyOf(l[1])
		from, to, found := common(a, b)
		if relation, _ := place.Relate(l[0], l[1]); !found || relation == place.Into || to-from > 20 {
			continue
		}
		for n := 3 * from; n <= 3*to; n++ {
			x := q(n, 3)
			if low, up := greater(a.low(x), b.low(x)), lesser(a.up(x), b.up(x)); low.Cmp(up) < 0 {
				t.Errorf("%v: both have points at %s", l, x)
			}
		}
	}
}

// P1, for all with two laid stones: ErrArg for either of them, before anything else.
func TestBrokenPairs(t *testing.T) {
	apart := brick("l", 900, 0)
	for what, p := range broken() {
		for _, l := range [][2]placed{{p, apart}, {apart, p}, {p, p}} {
			kind, e := place.Relate(l[0], l[1])
			want(t, "Relate, "+what, []any{kind, e}, []any{uint8(0), api.ErrArg})
			least, at, e := place.Gap(l[0], l[1])
			want(t, "Gap, "+what, []any{least, at, e}, []any{whole.R{}, whole.R{}, api.ErrArg})
			v, e := place.Inside(l[0], l[1])
			want(t, "Inside, "+what, []any{v, e}, []any{whole.V{}, api.ErrArg})
		}
	}
}
