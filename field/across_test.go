package field_test

import (
	"fmt"
	"math/rand"
	"slices"
	"strings"
	"testing"

	"copestone/api"
	"copestone/field"
	"copestone/plan"
)

// P9.1: Check.

func TestCheck(t *testing.T) {
	wantErr(t, "the example", field.Check(example(), moor(0, 0), hare), api.OK)
	wantErr(t, "a cell", field.Check(drawing{}, chart{Cells: []string{"a"}}, animal{}), api.OK)
	wantErr(t, "as much as may be", field.Check(example(), wideChart(api.MaxCells, api.MaxBorders), animal{10000, 10000, 10000, 10000, 10000}), api.OK)
	wantErr(t, "grounds", field.Check(example(), moor(3000, -3000), hare), api.OK)
	wantErr(t, "grounds the other way", field.Check(example(), moor(-3000, 3000), hare), api.OK)
	wantErr(t, "a name", field.Check(example(), chart{Cells: []string{"0123456789abcxyz", "0", "9", "a", "z"}}, hare), api.OK)
	wantErr(t, "several borders", field.Check(example(), doubled(), hare), api.OK)
	for what, p := range badPlans() {
		wantErr(t, what, field.Check(p, moor(0, 0), hare), api.ErrArg)
		wantErr(t, what, field.Check(p, chart{Cells: []string{"a"}}, hare), api.ErrArg)
	}
	for what, m := range badMaps() {
		wantErr(t, what, field.Check(example(), m, hare), api.ErrArg)
	}
	for what, a := range badAnimals() {
		wantErr(t, what, field.Check(example(), moor(0, 0), a), api.ErrArg)
	}
}

// wideChart has borders with the wall north, from each cell to the next one.
func wideChart(cells, borders int) chart {
	m := charted(cells)
	for i := range borders {
		m.Borders = append(m.Borders, border{i % cells, (i + 1) % cells, "north", 0, 0, true})
	}
	return m
}

// doubled has two borders between the same cells, one in each direction.
func doubled() chart {
	m := moor(0, 0)
	m.Borders = append(m.Borders, border{1, 0, "north", 0, 0, false}, m.Borders[0])
	return m
}

// badPlans are not valid, by what is wrong with them.
func badPlans() map[string]drawing {
	low, twice := example(), example()
	low.Sheets = []sheet{dale(func(s *sheet) { s.Base = 240 })}
	twice.Walls = append(twice.Walls, twice.Walls[0])
	return map[string]drawing{
		"no sheet": {Walls: example().Walls}, "a bad sheet": low, "a wall twice": twice,
		"a bad opening": north(smoot(3000, 0, 220)), "a gate that is too low": north(at1000(plan.Gate, 1, 0, 1199)),
	}
}

// badMaps are not valid for the plan of the example, by what is wrong with them.
func badMaps() map[string]chart {
	l := map[string]chart{
		"nothing": {}, "no cells": {Cells: []string{}}, "borders without cells": {Borders: moor(0, 0).Borders},
		"41 cells": charted(api.MaxCells + 1), "81 borders": wideChart(2, api.MaxBorders+1), "a border of a cell with itself": {names(2), []border{{1, 1, "north", 0, 0, false}}},
		"a cell twice": {Cells: []string{"a", "a"}}, "a cell twice, far": {Cells: append(names(39), "c0")}, "a bad border behind others": {names(2), append(wideChart(2, 5).Borders, border{0, 2, "north", 0, 0, false})},
	}
	for _, name := range []string{"", "12345678901234567", "Moor", "mo or", "mo-or", "mo\xe9r", "moör", "moor\n", " ", "_", "`", "{", "/", ":", "@", "[", "\x00"} {
		l[fmt.Sprintf("the name %q", name)] = chart{Cells: []string{name}}
		l[fmt.Sprintf("the last name %q", name)] = chart{Cells: []string{"a", "b", name}}
	}
	for _, name := range []string{"", "nort", "norths", "North", "south", "dale"} {
		l[fmt.Sprintf("the wall %q", name)] = chart{names(2), []border{{0, 1, name, 0, 0, false}}}
	}
	for _, n := range append([]int{-1, 2}, far...) {
		l[fmt.Sprint("A ", n)] = chart{names(2), []border{{n, 1, "north", 0, 0, false}}}
		l[fmt.Sprint("B ", n)] = chart{names(2), []border{{1, n, "north", 0, 0, false}}}
		l[fmt.Sprint("both ", n)] = chart{names(2), []border{{n, n, "north", 0, 0, false}}}
	}
	for _, n := range append([]int{-3001, 3001}, far...) {
		l[fmt.Sprint("ground A ", n)] = moor(n, 0)
		l[fmt.Sprint("ground B ", n)] = moor(0, n)
	}
	return l
}

// badAnimals have a number out of its range, by which one.
func badAnimals() map[string]animal {
	l := map[string]animal{}
	for _, n := range append([]int{-1, 10001}, far...) {
		for i := range 5 {
			a := bird
			*[]*int{&a.Wide, &a.High, &a.Step, &a.Leap, &a.Reach}[i] = n
			l[fmt.Sprint("the number ", i, " is ", n)] = a
		}
	}
	return l
}

func TestCheckMany(t *testing.T) {
	seen := map[bool]int{}
	lands(t, 901, 4000, func(x *rand.Rand, p drawing, m chart, a animal) {
		b := border{A: -1}
		if len(m.Borders) > 0 {
			b = pick(x, m.Borders...)
		}
		switch x.Intn(8) {
		case 0:
			b.A = upTo(x, -1, len(m.Cells))
		case 1:
			b.B = upTo(x, -1, len(m.Cells))
		case 2:
			b.GroundA = pick(x, -3001, -3000, 3000, 3001)
		case 3:
			b.GroundB = pick(x, -3001, -3000, 3000, 3001)
		case 4:
			b.Wall = fmt.Sprint("w", x.Intn(8))
		case 5:
			a.High = pick(x, -1, 0, 10000, 10001)
		case 6:
			m.Cells = append(slices.Clone(m.Cells), pick(x, "c0", "c9", "", "C"))
		}
		m.Borders = append(slices.Clone(m.Borders), b)
		valid := isValid(p, m, a)
		want(t, fmt.Sprint(m, a), field.Check(p, m, a) == api.OK, valid)
		seen[valid]++
	})
	if seen[true] < 500 || seen[false] < 500 {
		t.Errorf("%v", seen)
	}
}

// P9.2: Across.

func wantAcross(t *testing.T, what string, p drawing, m chart, a animal, back bool, way, effort int) {
	t.Helper()
	gotWay, gotEffort, e := field.Across(p, m, a, 0, back)
	want(t, what, [3]int{gotWay, gotEffort, int(e)}, [3]int{way, effort, int(api.OK)})
}

func wantNoWay(t *testing.T, what string, p drawing, m chart, a animal, back bool) {
	t.Helper()
	way, effort, e := field.Across(p, m, a, 0, back)
	want(t, what, [3]int{way, effort, int(e)}, [3]int{0, 0, int(api.ErrNone)})
}

func TestAcross(t *testing.T) {
	wantAcross(t, "the hare", example(), moor(0, 0), hare, false, 0, 1)
	wantAcross(t, "the hare, back", example(), moor(0, 0), hare, true, 0, 1)
	wantNoWay(t, "the ewe", example(), moor(0, 0), ewe, false)
	wantNoWay(t, "the ewe, back", example(), moor(0, 0), ewe, true)
	wantAcross(t, "the ewe from the moor", example(), moor(400, 0), ewe, false, -1, 1101)
	wantNoWay(t, "the ewe to the moor", example(), moor(400, 0), ewe, true)
	wantAcross(t, "the ewe from the croft", example(), moor(0, 400), ewe, true, -1, 1101)
}

// with changes the hare.
func with(change func(a *animal)) animal {
	a := hare
	change(&a)
	return a
}

func TestAcrossSmoot(t *testing.T) {
	for _, o := range []opening{smoot(250, 300, 220), lunky(250, 300, 220)} {
		p, kind := north(o), fmt.Sprint("kind ", o.Kind)
		stepping := with(func(a *animal) { a.Step = 300 })
		wantAcross(t, kind+", a high step", p, moor(0, 0), stepping, false, 0, 301)
		wantNoWay(t, kind+", a step too low", p, moor(0, 0), with(func(a *animal) { a.Step = 299 }), false)
		wantAcross(t, kind+", from a higher ground", p, moor(1, 0), with(func(a *animal) { a.Step = 299 }), false, 0, 300)
		wantNoWay(t, kind+", from a lower ground", p, moor(-1, 0), stepping, false)
		wantNoWay(t, kind+", back from a lower ground", p, moor(0, -1), stepping, true)
		wantAcross(t, kind+", the ground beyond is lower", p, moor(0, -1000), stepping, false, 0, 301)
		wantAcross(t, kind+", a wide animal", p, moor(0, 0), animal{250, 220, 300, 0, 0}, false, 0, 301)
		wantNoWay(t, kind+", an animal too wide", p, moor(0, 0), animal{251, 220, 300, 0, 0}, false)
		wantNoWay(t, kind+", an animal too high", p, moor(0, 0), animal{250, 221, 300, 0, 0}, false)
		wantAcross(t, kind+", from above it", p, moor(320, 0), stepping, false, 0, 1)
		wantNoWay(t, kind+", from too far above it", p, moor(321, 0), stepping, false)
		wantAcross(t, kind+", to above it", p, moor(0, 320), stepping, false, 0, 301)
		wantNoWay(t, kind+", to too far above it", p, moor(0, 321), stepping, false)
		wantAcross(t, kind+", from below", p, moor(300, 320), hare, false, 0, 1)
		wantAcross(t, kind+", a flat animal in a filled opening", p, moor(520, 520), animal{0, 0, 0, 0, 0}, false, 0, 1)
		wantNoWay(t, kind+", a flat animal in a buried opening", p, moor(520, 521), animal{0, 0, 0, 0, 0}, false)
		m := moor(0, 0)
		m.Borders[0].Shut = true
		wantAcross(t, kind+", shut", p, m, stepping, false, 0, 301)
	}
}

func TestAcrossStile(t *testing.T) {
	p := north(stile(200, 700)) // there the wall is 560 wide
	climber := animal{200, 9999, 0, 700, 560}
	wantAcross(t, "a stile", p, moor(0, 0), climber, false, 0, 701)
	wantNoWay(t, "a leap too low", p, moor(0, 0), animal{200, 0, 9999, 699, 560}, false)
	wantAcross(t, "from above", p, moor(1, 0), animal{200, 0, 0, 699, 560}, false, 0, 700)
	wantNoWay(t, "from below", p, moor(-1, 0), climber, false)
	wantAcross(t, "to below", p, moor(0, -1), climber, false, 0, 701)
	wantAcross(t, "to above", p, moor(0, 3000), climber, false, 0, 701)
	wantNoWay(t, "a reach too low", p, moor(0, 0), animal{200, 0, 0, 700, 559}, false)
	wantNoWay(t, "an animal too wide", p, moor(0, 0), animal{201, 0, 0, 700, 560}, false)
	wantAcross(t, "from on high", p, moor(700, 0), animal{200, 0, 0, 0, 560}, false, 0, 1)
	wantAcross(t, "from higher", p, moor(1000, 0), animal{200, 0, 0, 0, 560}, false, 0, 1)
	m := moor(0, 0)
	m.Borders[0].Shut = true
	wantAcross(t, "shut", p, m, climber, false, 0, 701)
}

func TestAcrossGate(t *testing.T) {
	p := north(gate(1000))
	wantAcross(t, "a gate", p, moor(0, 0), animal{1000, 10000, 0, 0, 0}, false, 0, 1)
	wantNoWay(t, "an animal too wide", p, moor(0, 0), animal{1001, 0, 0, 0, 0}, false)
	wantAcross(t, "from far below", p, moor(-3000, 0), animal{1000, 0, 0, 0, 0}, false, 0, 1)
	wantAcross(t, "from far above", p, moor(3000, -3000), animal{1000, 0, 0, 0, 0}, false, 0, 1)
	m := moor(0, 0)
	m.Borders[0].Shut = true
	wantNoWay(t, "shut", p, m, animal{0, 0, 10000, 1499, 460}, false)
	wantAcross(t, "shut, over it", p, m, animal{0, 0, 0, 1500, 460}, false, -1, 1501)
}

func TestAcrossTop(t *testing.T) {
	leaper := animal{10000, 10000, 0, 1500, 460}
	wantAcross(t, "over it", north(), moor(0, 0), leaper, false, -1, 1501)
	wantNoWay(t, "a leap too low", north(), moor(0, 0), animal{0, 0, 10000, 1499, 460}, false)
	wantNoWay(t, "a reach too low", north(), moor(0, 0), animal{0, 0, 0, 10000, 459}, false)
	wantAcross(t, "from the top", north(), moor(1500, 0), animal{0, 0, 0, 0, 460}, false, -1, 1)
	wantAcross(t, "from above the top", north(), moor(3000, -3000), animal{0, 0, 0, 0, 460}, false, -1, 1)
	wantNoWay(t, "to the top", north(), moor(3000, 0), animal{0, 0, 0, 1499, 460}, true)
	wantAcross(t, "from below", north(), moor(-3000, 0), animal{0, 0, 0, 4500, 460}, false, -1, 4501)
	bare := north()
	bare.Sheets = []sheet{dale(func(s *sheet) { s.Cope, s.Tall, s.Short, s.Thick = plan.None, 0, 0, 0 })}
	wantAcross(t, "without a cope", bare, moor(0, 0), leaper, false, -1, 1201)
}

// Of several ways the one with the least effort; an opening before the wall itself,
// and the first one of openings.
func TestAcrossBest(t *testing.T) {
	p := north(smoot(250, 50, 220), beside(smoot(250, 20, 220), 300), beside(smoot(250, 20, 220), 600))
	wantAcross(t, "the lower ones", p, moor(0, 0), hare, false, 1, 21)
	wantAcross(t, "all are as good", p, moor(50, 0), hare, false, 0, 1)
	p = north(smoot(100, 0, 220), stile(250, 500), beside(gate(250), 300))
	wantAcross(t, "a gate before a stile", p, moor(0, 0), animal{150, 200, 100, 600, 1000}, false, 2, 1)
	m := moor(0, 0)
	m.Borders[0].Shut = true
	wantAcross(t, "a gate that is shut", p, m, animal{150, 200, 100, 600, 1000}, false, 1, 501)
	wantAcross(t, "an opening before the wall", north(stile(250, 1199)), moor(1500, 0), bird, false, 0, 1)
	lower := north(lunky(5, 1000, 10))
	wantAcross(t, "over from above", lower, moor(1600, 1600), animal{10, 0, 0, 0, 1000}, false, -1, 1)
	m = chart{names(3), []border{{0, 1, "north", 0, 0, false}, {2, 1, "north", 400, 0, false}}}
	way, effort, e := field.Across(north(), m, ewe, 1, false)
	want(t, "another border", [3]int{way, effort, int(e)}, [3]int{-1, 1101, 0})
	_, _, e = field.Across(north(), m, ewe, 1, true)
	wantErr(t, "another border, back", e, api.ErrNone)
}

func TestAcrossMany(t *testing.T) {
	seen := map[string]int{}
	test := func(x *rand.Rand, p drawing, m chart, a animal) {
		for i, b := range m.Borders {
			for _, back := range []bool{false, true} {
				way, effort, e := field.Across(p, m, a, i, back)
				l := waysOf(p, b, a, back)
				best, ok := bestOf(l)
				if !ok {
					want(t, fmt.Sprint(p, b, a, back), [3]int{way, effort, int(e)}, [3]int{0, 0, int(api.ErrNone)})
					seen["none"]++
					continue
				}
				want(t, fmt.Sprint(p, b, a, back), [3]int{way, effort, int(e)}, [3]int{best.number, best.effort, 0})
				w, _ := sited(p, b)
				seen[kindOf(w, best.number)]++
				if len(l) > 1 {
					seen["several"]++
				}
			}
		}
	}
	lands(t, 902, 4000, test)
	wideLands(t, 903, 20, test)
	for _, what := range []string{"none", "over", "smoot", "lunky", "stile", "gate", "several"} {
		if seen[what] < 500 {
			t.Errorf("%s: %d times", what, seen[what])
		}
	}
}

func kindOf(w wall, way int) string {
	if way < 0 {
		return "over"
	}
	return []string{"smoot", "lunky", "stile", "gate"}[w.Openings[way].Kind-1]
}

// P9.7: Smoots.

func wantSmoots(t *testing.T, what string, p drawing, m chart, a animal, free, blocked []place) {
	t.Helper()
	gotFree, gotBlocked, e := field.Smoots(p, m, a)
	wantErr(t, what, e, api.OK)
	wantList(t, what+", free", gotFree, free...)
	wantList(t, what+", blocked", gotBlocked, blocked...)
}

func TestSmoots(t *testing.T) {
	only := []place{{0, 0}}
	wantSmoots(t, "the hare", example(), moor(0, 0), hare, only, nil)
	wantSmoots(t, "the ewe", example(), moor(0, 0), ewe, nil, only)
	wantSmoots(t, "no borders", example(), charted(3), hare, nil, nil)
	wantSmoots(t, "no openings", north(), moor(0, 0), hare, nil, nil)
	wantSmoots(t, "no smoots", north(lunky(250, 0, 220), beside(stile(200, 0), 300), beside(gate(200), 600)), moor(0, 0), hare, nil, nil)
	wantSmoots(t, "from one side", example(), moor(-101, 0), hare, nil, only)
	wantSmoots(t, "from the other side", example(), moor(0, -101), hare, nil, only)
	wantSmoots(t, "from both sides", example(), moor(-100, -100), hare, only, nil)
	wantSmoots(t, "one that another way is better than", north(smoot(250, 90, 220), beside(gate(2000-1250), 300)), moor(0, 0), hare, only, nil)
	p := north(smoot(100, 0, 220), beside(lunky(250, 0, 220), 300), beside(smoot(250, 0, 220), 600), beside(smoot(250, 0, 199), 900), beside(smoot(150, 100, 200), 1200))
	m := chart{names(3), []border{{0, 1, "north", 0, 0, true}, {1, 2, "north", 0, -1, false}}}
	wantSmoots(t, "several", p, m, hare, []place{{0, 2}, {0, 4}, {1, 2}}, []place{{0, 0}, {0, 3}, {1, 0}, {1, 3}, {1, 4}})
}

func TestSmootsMany(t *testing.T) {
	seen := map[string]int{}
	test := func(x *rand.Rand, p drawing, m chart, a animal) {
		free, blocked := smootsOf(p, m, a)
		wantSmoots(t, fmt.Sprint(p, m, a), p, m, a, free, blocked)
		seen["free"] += len(free)
		seen["blocked"] += len(blocked)
	}
	lands(t, 904, 3000, test)
	wideLands(t, 905, 20, test)
	if seen["free"] < 200 || seen["blocked"] < 500 {
		t.Errorf("%v", seen)
	}
}

// The longest names and the widest numbers do no harm.
func TestWide(t *testing.T) {
	p := north(smoot(1, 0, 1200))
	name := strings.Repeat("z", api.MaxName)
	p.Walls[0].Name = name
	m := chart{[]string{strings.Repeat("a", api.MaxName), name}, []border{{1, 0, name, -3000, 3000, false}}}
	wantAcross(t, "from far below", p, m, bird, false, -1, 4501)
	wantAcross(t, "from far above", p, m, bird, true, -1, 1)
}
