package hill_test

import (
	"fmt"
	"math/rand"
	"slices"
	"testing"

	"copestone/api"
	"copestone/hill"
)

// P8.6: Rows.

// wantRowsOf wants rows on a profile from 0 to 4000; its heights do not matter.
func wantRowsOf(t *testing.T, breaks, feet, heads []int, height int, rows ...row) {
	t.Helper()
	for _, l := range [][]point{slope(), path(0, 70000, 4000, -70000)} {
		wantRows(t, fmt.Sprint(breaks, feet, heads, height), ok[[]row](t)(hill.Rows(l, breaks, feet, heads, height)), rows...)
	}
}

func across(low, high int, ends ...int) row {
	r := row{Low: low, High: high}
	for i := 0; i < len(ends); i += 2 {
		r.Bays = append(r.Bays, bay{From: ends[i], To: ends[i+1]})
	}
	return r
}

func TestRows(t *testing.T) {
	thousands := every(0, 4000, 1000)
	wantRowsOf(t, thousands, []int{-50, -50, 100, 250}, []int{1100, 1250, 1400, 1400}, 300,
		across(-50, 250, 0, 2000), across(250, 550, 0, 4000), across(550, 850, 0, 4000), across(850, 1150, 1000, 4000))
	// Parted, at the ends and in between.
	wantRowsOf(t, thousands, []int{0, 1, 0, 0}, []int{10, 20, 20, 10}, 10, across(0, 10, 0, 1000, 2000, 4000), across(10, 20, 1000, 3000))
	wantRowsOf(t, thousands, []int{0, 9, 9, 0}, []int{20, 20, 20, 20}, 10, across(0, 10, 0, 1000, 3000, 4000), across(10, 20, 0, 4000))
	wantRowsOf(t, thousands, []int{9, 0, 9, 0}, []int{10, 10, 10, 10}, 10, across(0, 10, 1000, 2000, 3000, 4000))
	wantRowsOf(t, []int{5, 7, 100, 3999}, []int{0, 0, 0}, []int{10, 10, 9}, 10, across(0, 10, 5, 100))
}

// A row without a bay is not listed, but counted.
func TestRowsLeftOut(t *testing.T) {
	wantRowsOf(t, []int{0, 1, 2}, []int{0, 25}, []int{10, 60}, 10, across(0, 10, 0, 1), across(30, 40, 1, 2), across(40, 50, 1, 2), across(50, 60, 1, 2))
	wantRowsOf(t, []int{0, 1}, []int{0}, []int{9}, 10)
	wantRowsOf(t, []int{0, 1}, []int{0}, []int{10}, 10, across(0, 10, 0, 1))
	wantRowsOf(t, []int{0, 1}, []int{5}, []int{-5}, 1) // heads below feet
	wantRowsOf(t, []int{0, 1, 2}, []int{5, -9}, []int{-5, -10}, 1)
	wantRowsOf(t, []int{0, 1, 2}, []int{0, 200000}, []int{-200000, -200000}, 1)
	wantRowsOf(t, []int{0, 1, 2}, []int{0, 1}, []int{0, 2}, 1, across(1, 2, 1, 2)) // only just
}

// A row goes from low to low + h: a foot at low is low enough, one above is not.
func TestRowsEnds(t *testing.T) {
	two := []int{0, 1, 2}
	wantRowsOf(t, two, []int{0, 10}, []int{20, 20}, 10, across(0, 10, 0, 1), across(10, 20, 0, 2))
	wantRowsOf(t, two, []int{0, 11}, []int{20, 20}, 10, across(0, 10, 0, 1), across(10, 20, 0, 1))
	wantRowsOf(t, two, []int{0, 0}, []int{20, 19}, 10, across(0, 10, 0, 2), across(10, 20, 0, 1))
	wantRowsOf(t, two, []int{0, 0}, []int{9, 10}, 10, across(0, 10, 1, 2))
}

func TestRowsMost(t *testing.T) {
	for _, h := range []int{1, 7, 1999} {
		rows := ok[[]row](t)(hill.Rows(slope(), []int{0, 9}, []int{-200000}, []int{-200000 + 200*h}, h))
		want(t, "200 rows", len(rows), api.MaxRows)
		want(t, "the last one", rows[199].Low, -200000+199*h)
		l, e := hill.Rows(slope(), []int{0, 9}, []int{-200000}, []int{-199999 + 200*h}, h)
		wantErr(t, "1 more", e, api.ErrLimit)
		want(t, "1 more", len(l), 0)
	}
	rows := ok[[]row](t)(hill.Rows(slope(), []int{0, 9}, []int{-200000}, []int{200000}, 3000))
	want(t, "as far as may be", len(rows), 133)
	// The greatest head and the lowest foot are those of any treads.
	_, e := hill.Rows(slope(), []int{0, 4, 9}, []int{0, -1}, []int{200, 0}, 1)
	wantErr(t, "of two treads", e, api.ErrLimit)
	_, e = hill.Rows(slope(), []int{0, 4, 9}, []int{-1, 0}, []int{0, 200}, 1)
	wantErr(t, "of two treads, the other way", e, api.ErrLimit)
	wantRowsOf(t, []int{0, 4, 9}, []int{0, 199}, []int{1, 200}, 1, across(0, 1, 0, 4), across(199, 200, 4, 9))
}

// randomLevels returns feet and heads, for some heights of rows.
func randomLevels(x *rand.Rand, treads int) (feet, heads []int) {
	high := pick(x, 0, 5, 20, 100)
	for range treads {
		foot := upTo(x, -high, high)
		feet = append(feet, foot)
		heads = append(heads, pick(x, foot+upTo(x, 0, high), upTo(x, -high, 2*high)))
	}
	return feet, heads
}

func randomRows(t *testing.T, seed int64, test func(what string, breaks, feet, heads []int, height int, rows []row)) {
	t.Helper()
	profiles(t, seed, 1500, func(x *rand.Rand, l []point) {
		breaks := randomBreaks(x, l, pick(x, 3, 8, api.MaxTreads))
		feet, heads := randomLevels(x, len(breaks)-1)
		if x.Intn(3) == 0 {
			n, rise := upTo(x, 0, 9), upTo(x, 0, 30)
			feet, heads = ok[[]int](t)(hill.Feet(l, breaks, n, rise)), ok[[]int](t)(hill.Heads(l, breaks, 5*n, rise))
		}
		height := max(pick(x, 1, 3, 7, 30), (slices.Max(heads)-slices.Min(feet)+api.MaxRows-1)/api.MaxRows)
		what := fmt.Sprint(l, breaks, feet, heads, height)
		before := slices.Clone(heads)
		wantKept(t, what, l, breaks, func() {
			wantKept(t, what, nil, feet, func() {
				test(what, breaks, feet, heads, height, ok[[]row](t)(hill.Rows(l, breaks, feet, heads, height)))
			})
		})
		wantList(t, what, heads, before...)
	})
}

func TestRowsMany(t *testing.T) {
	parted, all := 0, 0
	randomRows(t, 111, func(what string, breaks, feet, heads []int, height int, rows []row) {
		wantRows(t, what, rows, rowsOf(breaks, feet, heads, height)...)
		for _, r := range rows {
			all++
			if len(r.Bays) > 1 {
				parted++
			}
		}
	})
	if all < 2000 || parted < 500 {
		t.Errorf("%d rows, %d of them parted", all, parted)
	}
}

// P8.12: each bay stands on feet at or below it, and ends under heads; rows do not
// overlap; each tread has as many rows as fit.
func TestRowsFit(t *testing.T) {
	randomRows(t, 112, func(what string, breaks, feet, heads []int, height int, rows []row) {
		count := make([]int, len(feet))
		for i, r := range rows {
			if r.High-r.Low != height || i > 0 && rows[i-1].High > r.Low {
				t.Errorf("%s: %v", what, rows)
			}
			for _, b := range r.Bays {
				from, to := slices.Index(breaks, b.From), slices.Index(breaks, b.To)
				for k := from; k < to; k++ {
					count[k]++
					if feet[k] > r.Low || heads[k] < r.High {
						t.Errorf("%s: %v", what, r)
					}
				}
			}
		}
		lowest := slices.Min(feet)
		for k := range feet {
			// The first whole row at the foot or above it, and the last one under the head.
			first := (feet[k] - lowest + height - 1) / height
			fit := 0
			for lowest+(first+fit+1)*height <= heads[k] {
				fit++
			}
			want(t, fmt.Sprint(what, " the tread ", k), count[k], fit)
		}
	})
}

// The lists of a result share no memory: one can grow into none of the others.
func TestRowsNew(t *testing.T) {
	breaks, feet, heads := every(0, 4000, 1000), []int{-50, -50, 100, 250}, []int{1100, 1250, 1400, 1400}
	rows := ok[[]row](t)(hill.Rows(slope(), breaks, feet, heads, 300))
	for i := range rows {
		rows[i].Bays[0] = bay{}
		rows[i].Bays = append(rows[i].Bays, bay{From: i, To: i})
	}
	for i, r := range rows {
		want(t, "the last bay", r.Bays[1], bay{From: i, To: i})
	}
	again := ok[[]row](t)(hill.Rows(slope(), breaks, feet, heads, 300))
	want(t, "again", again[0].Bays[0], bay{From: 0, To: 2000})
}
