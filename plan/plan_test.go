package plan_test

import (
	"fmt"
	"math"
	"math/rand"
	"testing"

	"copestone/api"
	"copestone/plan"
)

// P6.1: Check.

func TestCheck(t *testing.T) {
	for what, p := range map[string]drawing{
		"nothing":                       {},
		"empty lists":                   {Sheets: []sheet{}, Walls: []wall{}},
		"the example":                   example(),
		"a sheet alone":                 of(dale()),
		"as many sheets and walls":      {Sheets: sheets(20), Walls: walls(50, "s19")},
		"a wall with its sheet's name":  of(dale(), wall{"dale", "dale", 1, nil}),
		"a wall as long as may be":      one(api.MaxFar),
		"an empty list of openings":     one(1, []opening{}...),
		"as many openings":              one(20, smoots(20)...),
		"an opening that is the wall":   one(3000, smoot(0, 3000, 0, 1200)),
		"a gate that is the wall":       one(3000, gap(0, 3000)),
		"a stile from the ground":       one(3000, opening{plan.Stile, 0, 1, 0, 1200}),
		"a stile at the top":            one(3000, opening{plan.Stile, 2999, 1, 1199, 1}),
		"a smoot and a lunky at it":     one(3000, smoot(2999, 1, 1199, 1), opening{plan.Lunky, 0, 1, 1199, 1}),
		"a lunky in the wall":           one(3000, opening{plan.Lunky, 500, 900, 1, 1198}),
		"openings that touch":           one(3000, smoot(100, 50, 200, 60), smoot(150, 50, 200, 60), smoot(100, 50, 260, 60), smoot(150, 9, 260, 9), smoot(0, 100, 0, 1200), smoot(100, 100, 0, 200)),
		"the height of the wall's own":  {Sheets: []sheet{dale(func(s *sheet) { s.Name, s.Height = "low", 600 }), dale()}, Walls: []wall{north(99, gap(0, 9))}},
		"the same opening of two walls": of(dale(), north(99, gap(0, 9)), wall{"south", "dale", 99, []opening{gap(0, 9)}}),
	} {
		wantErr(t, what, plan.Check(p), api.OK)
	}
	for what, p := range badPlans() {
		wantErr(t, what, plan.Check(p), api.ErrArg)
	}
}

func TestCheckOpeningsMany(t *testing.T) {
	x := rand.New(rand.NewSource(62))
	seen := map[api.Errno]int{}
	for range 3000 {
		s := randomSheet(x, "s", 30)
		w := wall{Name: "w", Sheet: "s", Length: 40}
		e := api.OK
		for range 1 + x.Intn(4) {
			o := randomOpening(x, 40, s)
			for _, p := range w.Openings {
				if meet(o, p) {
					e = api.ErrArg
				}
			}
			w.Openings = append(w.Openings, o)
		}
		wantErr(t, fmt.Sprint(s, w), plan.Check(of(s, w)), e)
		seen[e]++
	}
	if seen[api.OK] < 500 || seen[api.ErrArg] < 500 {
		t.Error(seen)
	}
}

// P6.3: Find.

func TestFind(t *testing.T) {
	p := randomPlan(rand.New(rand.NewSource(63)), 20, 50, 3000, 100000)
	wantKept(t, p, func() {
		for _, w := range p.Walls {
			gotWall, gotSheet, e := plan.Find(p, w.Name)
			wantErr(t, w.Name, e, api.OK)
			for _, s := range p.Sheets {
				if s.Name == w.Sheet {
					wantPlan(t, w.Name, of(gotSheet, gotWall), of(s, w))
				}
			}
		}
	})
}

// A result shares no memory with an argument, not even behind its lists.
func TestFindNew(t *testing.T) {
	p := example()
	p.Walls[0].Openings = append(make([]opening, 0, 9), p.Walls[0].Openings...)
	p.Sheets[0].Heights = append(make([]int, 0, 9), p.Sheets[0].Heights...)
	w, s, e := plan.Find(p, "north")
	wantErr(t, "Find", e, api.OK)
	w.Openings[0].At, s.Heights[0] = 7, 7
	w.Openings, s.Heights = append(w.Openings, gap(1, 1)), append(s.Heights, 9)
	wantPlan(t, "the plan", p, example())
	want(t, "behind the openings", p.Walls[0].Openings[:2][1], opening{})
	want(t, "behind the heights", p.Sheets[0].Heights[:3][2], 0)
}

// P1: the errors of all calls with a plan, the first one first; with an error
// there is no other result.

func wantError(t *testing.T, what string, p drawing, name string, e api.Errno) {
	t.Helper()
	w, s, got := plan.Find(p, name)
	want(t, what+": Find", []any{w, s, got}, []any{wall{}, sheet{}, e})
	course, places, got := plan.Throughs(p, name)
	want(t, what+": Throughs", []any{course, len(places), got}, []any{0, 0, e})
	copes, got := plan.Copes(p, name)
	want(t, what+": Copes", []any{len(copes), got}, []any{0, e})
	q, got := plan.Take(p, name)
	want(t, what+": Take", []any{q, got}, []any{quantities{}, e})
	for _, n := range []int{0, 7, -1, math.MaxInt, math.MinInt} {
		bays, got := plan.Bays(p, name, n)
		want(t, fmt.Sprint(what, ": Bays ", n), []any{len(bays), got}, []any{0, e})
	}
}

func TestErrors(t *testing.T) {
	for what, p := range badPlans() {
		wantError(t, what, p, "north", api.ErrArg)
		wantError(t, what+", no such wall", p, "south", api.ErrArg)
		text, e := plan.Print(p)
		want(t, what+": Print", []any{text, e}, []any{"", api.ErrArg})
	}
	for _, name := range []string{"", "dale", "North", "north ", "south", "nort", "northh"} {
		wantError(t, name, example(), name, api.ErrName)
		wantError(t, name+", no walls", of(dale()), name, api.ErrName)
		wantError(t, name+", nothing", drawing{}, name, api.ErrName)
	}
}
