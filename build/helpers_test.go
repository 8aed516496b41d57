package build_test

import (
	"fmt"
	"math"
	"math/rand"
	"reflect"
	"slices"
	"testing"

	"copestone/api"
	"copestone/build"
	"copestone/place"
	"copestone/plan"
	"copestone/stone"
	"copestone/thrust"
)

// The tests hold the package against slow ways that follow the words of the
// chapter, millimetre by millimetre (slow_test.go); what the chapter asks of lower
// layers is asked of their packages.

type (
	point   = stone.Point
	rock    = stone.Stone
	placed  = place.Placed
	wall    = place.Wall
	sheet   = plan.Sheet
	bay     = plan.Bay
	opening = plan.Opening
	job     = build.Job
	account = build.Account
)

var far = []int{math.MaxInt, math.MinInt, math.MaxInt - 1, math.MinInt + 1, math.MaxInt32, math.MinInt32, 1 << 40, -1 << 40}

func at(x, z int) point { return point{X: x, Z: z} }

// path returns the points whose X and Z these are, in turn.
func path(numbers ...int) []point {
	var l []point
	for i := 0; i < len(numbers); i += 2 {
		l = append(l, at(numbers[i], numbers[i+1]))
	}
	return l
}

func shaped(name string, l ...point) rock {
	return rock{Name: name, Shape: l, Depth: 100, Density: 2400, Grain: point{X: 1}}
}

func box(name string, wide, high int) rock {
	return shaped(name, at(0, 0), at(wide, 0), at(wide, high), at(0, high))
}

// corner is a triangle with the right angle at the lower left.
func corner(name string, wide, high int) rock {
	return shaped(name, at(0, 0), at(wide, 0), at(0, high))
}

// odd has another shape in each way, and is 4 wide and high.
func odd(name string) rock { return shaped(name, path(0, 0, 3, 0, 4, 2, 1, 4, 0, 1)...) }

func deep(depth int, s rock) rock {
	s.Depth = depth
	return s
}

// put lays a stone at the front, in the way 0.
func put(s rock, x, z int) placed {
	return placed{Stone: s, At: at(x, z), Skin: place.Front}
}

func in(skin uint8, p placed) placed {
	p.Skin = skin
	return p
}

func turned(way int, p placed) placed {
	p.Way = way
	return p
}

func through(p placed) placed { return in(place.Through, p) }

// onto returns a wall on the ground of a job's wall with this length.
func onto(length int, l ...placed) wall { return wall{Ground: path(0, 0, length, 0), Stones: l} }

// bricks are the heap of the chapter's example.
func bricks() []rock {
	return []rock{box("a", 200, 80), box("b", 200, 80), box("c", 100, 80), box("e", 100, 80), box("d", 200, 80)}
}

// example is the job of the chapter.
func example(changes ...func(j *job)) job {
	j := job{
		Plan: plan.Plan{
			Sheets: []sheet{{Name: "low", Base: 300, Height: 160, Skin: 150, Heights: []int{80}, Least: 10, Lap: 50, Run: 1, Low: 500, High: 700, Rood: 1000}},
			Walls:  []plan.Wall{{Name: "bit", Sheet: "low", Length: 400}},
		},
		Wall: "bit", Skin: place.Front, Step: 10, Heap: bricks(),
	}
	return changed(j, changes...)
}

func changed(j job, changes ...func(j *job)) job {
	for _, change := range changes {
		change(&j)
	}
	return j
}

// five is the wall that the example builds.
func five() wall {
	l := bricks()
	return onto(400, put(l[0], 0, 0), put(l[1], 200, 0), put(l[2], 0, 80), put(l[4], 100, 80), put(l[3], 300, 80))
}

// heaped, sheeted and opened are changes of a job: another heap, another sheet,
// openings.
func heaped(l ...rock) func(j *job) { return func(j *job) { j.Heap = l } }

func sheeted(change func(s *sheet)) func(j *job) {
	return func(j *job) { change(&j.Plan.Sheets[0]) }
}

func opened(l ...opening) func(j *job) { return func(j *job) { j.Plan.Walls[0].Openings = l } }

func long(length int) func(j *job) {
	return func(j *job) { j.Plan.Walls[0].Length = length }
}

func back(j *job) { j.Skin = place.Back }

// small is a job with courses that are 3 high, where joints do not matter.
func small(length, courses int, changes ...func(j *job)) job {
	j := example(long(length), func(j *job) { j.Step = 0 }, heaped(), sheeted(func(s *sheet) {
		s.Height, s.Heights, s.Least, s.Lap, s.Run = 3*courses, []int{3}, 1, 0, 20
	}))
	return changed(j, changes...)
}

// many returns boxes with different names.
func many(name string, count, wide, high int) []rock {
	var l []rock
	for i := range count {
		l = append(l, box(fmt.Sprint(name, i), wide, high))
	}
	return l
}

// row lays stones beside each other, from x on.
func row(x, z int, l ...rock) []placed {
	var stones []placed
	for _, s := range l {
		stones = append(stones, put(s, x, z))
		wide, _, _ := stone.Extent(s)
		x += wide
	}
	return stones
}

// badJobs are not valid, by what is wrong with them.
func badJobs() map[string]job {
	l := map[string]job{"nothing": {}}
	add := func(what string, change func(j *job)) { l[what] = example(change) }
	for _, name := range []string{"", "low", "Bit", "bits", "bi"} {
		add(fmt.Sprintf("the wall %q", name), func(j *job) { j.Wall = name })
	}
	add("no plan", func(j *job) { j.Plan = plan.Plan{} })
	add("no walls", func(j *job) { j.Plan.Walls = nil })
	add("another sheet", func(j *job) { j.Plan.Sheets[0].Name = "lower" })
	add("a bad sheet", sheeted(func(s *sheet) { s.Base = 0 }))
	add("a bad wall", long(0))
	add("a bad opening", opened(opening{Kind: plan.Gate, At: 0, Width: 1, From: 0, High: 159}))
	add("another bad wall", func(j *job) { j.Plan.Walls = append(j.Plan.Walls, plan.Wall{Name: "x", Sheet: "low"}) })
	for _, skin := range []uint8{0, place.Through, 4, 255} {
		add(fmt.Sprint("the skin ", skin), func(j *job) { j.Skin = skin })
	}
	for _, n := range append([]int{-1, api.MaxPin + 1}, far...) {
		add(fmt.Sprint("Pin ", n), func(j *job) { j.Pin = n })
	}
	for _, n := range append([]int{-1, api.MaxLength + 1}, far...) {
		add(fmt.Sprint("Wide ", n), func(j *job) { j.Wide = n })
		add(fmt.Sprint("Step ", n), func(j *job) { j.Step = n })
		add(fmt.Sprint("Level ", n), func(j *job) { j.Level = n })
	}
	add("Level as high as the courses", func(j *job) { j.Level = 80 })
	l["Level as high as the last course"] = example(sheeted(func(s *sheet) { s.Height = 170 }), func(j *job) { j.Level = 10 })
	l["Level as high as the lowest course"] = example(sheeted(func(s *sheet) { s.Heights = []int{20, 140} }), func(j *job) { j.Level = 20 })
	add("a heap of 17", heaped(many("m", api.MaxJob+1, 5, 5)...))
	add("a heap of 201", heaped(many("m", api.MaxHeap+1, 5, 5)...))
	add("a name twice", heaped(box("a", 5, 5), box("b", 6, 6), box("a", 7, 7)))
	add("a bad stone", heaped(box("a", 5, 5), rock{}))
	add("a bad name", heaped(box("A", 5, 5)))
	add("no depth", heaped(deep(0, box("a", 5, 5))))
	return l
}

// badWalls returns walls that are not valid, by their errors.
func badWalls() map[api.Errno][]wall {
	a := put(box("a", 200, 80), 0, 0)
	return map[api.Errno][]wall{
		api.ErrArg: {
			{}, {Ground: path(0, 0), Stones: []placed{a}}, {Ground: path(5, 0, 0, 0)}, onto(400, placed{}), onto(199, a), onto(400, in(0, a)), onto(400, in(4, a)),
			onto(400, put(box("A", 9, 9), 0, 0)), onto(400, put(deep(0, box("a", 9, 9)), 0, 0)), onto(400, turned(8, a)), onto(400, put(box("a", 9, 9), math.MaxInt, math.MinInt)), onto(400, a, placed{}, a),
		},
		api.ErrLimit: {onto(4000, row(0, 0, many("m", api.MaxWall+1, 9, 9)...)...)},
		api.ErrTwice: {onto(400, a, a), onto(400, a, put(box("a", 9, 9), 300, 0))},
		api.ErrVoid:  {onto(400, a, put(box("b", 9, 9), 199, 0)), onto(400, put(box("a", 9, 9), 0, -1))},
	}
}

// Random jobs and walls.

func pick[T any](x *rand.Rand, l ...T) T { return l[x.Intn(len(l))] }

// upTo returns a number from least to most.
func upTo(x *rand.Rand, least, most int) int { return least + x.Intn(most-least+1) }

func randomSheet(x *rand.Rand) sheet {
	s := sheet{
		Name: "s", Base: upTo(x, 4, 9), Batter: pick(x, 0, 0, 200, 500), Height: upTo(x, 2, 9), Skin: 3, Least: upTo(x, 1, 2),
		Lap: pick(x, 0, 0, 1, 1, 2), Run: pick(x, 1, 2, 2, 3, 20), Low: pick(x, 0, 100, 500, 1000), High: pick(x, 1000, 2000), Rood: 6,
	}
	for range 1 + x.Intn(2) {
		s.Heights = append(s.Heights, upTo(x, 2, 3))
	}
	s.Batter = min(s.Batter, (s.Base-1)/2*1000/s.Height)
	if x.Intn(3) > 0 {
		s.Every, s.At = upTo(x, 3, 9), pick(x, 0, 0, 1, 2, 3, 5)
	}
	return s
}

func randomOpenings(x *rand.Rand, length, height int) []opening {
	wide, high := upTo(x, 1, 2), upTo(x, 1, height)
	o := opening{Kind: plan.Smoot, At: x.Intn(length), From: x.Intn(height - high + 1), High: high}
	o.Width = min(wide, length-o.At)
	return []opening{o}
}

// randomStone returns one that mostly fits a course that is so high, of a wall that
// is so wide.
func randomStone(x *rand.Rand, name string, high, base int) rock {
	high = max(1, high+pick(x, 0, 0, 0, 0, 0, 0, -1, 1))
	wide := upTo(x, 1, 4)
	s := box(name, wide, high)
	switch x.Intn(10) {
	case 0:
		s = box(name, high, wide)
	case 1:
		s = shaped(name, at(0, 0), at(wide+1, 0), at(wide, high), at(0, high))
	case 2:
		s = corner(name, wide, high)
	}
	s.Depth, s.Density = pick(x, 1, base-1, base, base, base+1), pick(x, 1, 1, 1, 5)
	return s
}

func randomJob(x *rand.Rand) job {
	s := randomSheet(x)
	w := plan.Wall{Name: "w", Sheet: "s", Length: upTo(x, 2, 11)}
	if x.Intn(5) == 0 {
		w.Openings = randomOpenings(x, w.Length, s.Height)
	}
	j := job{
		Plan: plan.Plan{Sheets: []sheet{s}, Walls: []plan.Wall{w}}, Wall: "w", Skin: pick(x, place.Front, place.Back),
		Pin: pick(x, 0, 0, 1), Wide: pick(x, 0, 1, 1, 2), Step: x.Intn(3), Level: pick(x, 0, 1, 1),
	}
	for i := range upTo(x, 1, pick(x, 5, api.MaxJob, api.MaxJob)) {
		j.Heap = append(j.Heap, randomStone(x, fmt.Sprint("s", i), pick(x, s.Heights...), s.Base))
	}
	if build.Check(j) != api.OK { // a course that is not higher than Level
		j.Level = 0
	}
	return j
}

// tightJob returns one with boxes that fit its courses, and joints that matter.
func tightJob(x *rand.Rand) job {
	j := small(upTo(x, 8, 14), upTo(x, 1, 3), sheeted(func(s *sheet) {
		s.Lap, s.Run, s.Every, s.At = upTo(x, 0, 1), upTo(x, 1, 2), pick(x, 0, 0, 6), 0
	}))
	for i := range upTo(x, 8, api.MaxJob) {
		s := deep(pick(x, 100, 300, 300), box(fmt.Sprint("s", i), upTo(x, 2, 5), 3))
		j.Heap = append(j.Heap, s)
	}
	return j
}

// spoilt returns a wall whose stones are taken from another one, of which some are
// left out, moved, exchanged or changed; it is valid.
func spoilt(x *rand.Rand, j job, w wall) wall {
	for {
		v := copied(w)
		for range 1 + x.Intn(3) {
			spoil(x, j, &v)
		}
		if place.Check(v) == api.OK {
			return v
		}
	}
}

func spoil(x *rand.Rand, j job, w *wall) {
	if len(w.Stones) == 0 || x.Intn(4) == 0 {
		name, free := pick(x, j.Heap...), at(x.Intn(10), x.Intn(9))
		w.Stones = append(w.Stones, placed{Stone: name, Way: x.Intn(8), At: free, Skin: uint8(1 + x.Intn(3))})
		return
	}
	i := x.Intn(len(w.Stones))
	p := &w.Stones[i]
	switch x.Intn(8) {
	case 0, 1:
		w.Stones = slices.Delete(w.Stones, i, i+1)
	case 2:
		p.At.X += pick(x, -1, 1)
	case 3:
		p.At.Z += pick(x, -1, 1)
	case 4:
		p.Skin = uint8(1 + x.Intn(3))
	case 5:
		p.Way = x.Intn(8)
	case 6:
		p.Stone.Depth = max(1, p.Stone.Depth+pick(x, -1, 1, 5))
	case 7:
		k := x.Intn(len(w.Stones))
		w.Stones[i], w.Stones[k] = w.Stones[k], w.Stones[i]
	}
}

// randomSites calls a test with many jobs and walls: what a job builds, the first
// stones of that, or what is left of it when it is spoilt.
func randomSites(t *testing.T, seed int64, count int, test func(x *rand.Rand, j job, w wall)) {
	t.Helper()
	x := rand.New(rand.NewSource(seed))
	for n := range count {
		j := randomJob(x)
		if n%4 == 0 {
			j = tightJob(x)
		}
		w, _, _, e := build.Build(j, x.Intn(3) == 0)
		wantErr(t, fmt.Sprint(j), e, api.OK)
		switch n % 3 {
		case 1:
			w.Stones = w.Stones[:x.Intn(len(w.Stones)+1)]
		case 2:
			w = spoilt(x, j, w)
		}
		test(x, j, w)
	}
}

// What is wanted.

func wantErr(t *testing.T, what string, got, want api.Errno) {
	t.Helper()
	if got != want {
		t.Errorf("%s: %v, want %v", what, got, want)
	}
}

func want[A any](t *testing.T, what string, got, want A) {
	t.Helper()
	if !reflect.DeepEqual(got, want) {
		t.Errorf("%s: %v, want %v", what, got, want)
	}
}

// wantList takes a nil list for an empty one.
func wantList[A comparable](t *testing.T, what string, got []A, want ...A) {
	t.Helper()
	if !slices.Equal(got, want) {
		t.Errorf("%s: %v, want %v", what, got, want)
	}
}

// wantWall takes nil lists for empty ones.
func wantWall(t *testing.T, what string, got, want wall) {
	t.Helper()
	if g, w := copied(got), copied(want); !reflect.DeepEqual(g, w) {
		t.Errorf("%s: %v, want %v", what, g, w)
	}
}

func ok[A any](t *testing.T) func(a A, e api.Errno) A {
	return func(a A, e api.Errno) A {
		t.Helper()
		if e != api.OK {
			t.Errorf("%v, want OK", e)
		}
		return a
	}
}

// caseText tells equal cases from others.
func caseText(c thrust.Case) string {
	return fmt.Sprint(c.Wall.Ground, c.Wall.Stones, c.Skin, c.Pin, c.Low.Text(), c.High.Text(), len(c.Loads))
}

// copied has no empty lists, but nil ones.
func copied(w wall) wall {
	c := wall{Ground: append([]point(nil), w.Ground...), Stones: append([]placed(nil), w.Stones...)}
	for i, p := range c.Stones {
		c.Stones[i].Stone.Shape = slices.Clone(p.Stone.Shape)
	}
	return c
}

func copiedJob(j job) job {
	j.Heap = slices.Clone(j.Heap)
	for i, s := range j.Heap {
		j.Heap[i].Shape = slices.Clone(s.Shape)
	}
	j.Plan.Sheets, j.Plan.Walls = slices.Clone(j.Plan.Sheets), slices.Clone(j.Plan.Walls)
	for i, s := range j.Plan.Sheets {
		j.Plan.Sheets[i].Heights = slices.Clone(s.Heights)
	}
	for i, w := range j.Plan.Walls {
		j.Plan.Walls[i].Openings = slices.Clone(w.Openings)
	}
	return j
}

// wantKept fails if calls have changed a job or a wall.
func wantKept(t *testing.T, what string, j job, w wall, calls func()) {
	t.Helper()
	jobBefore, wallBefore := copiedJob(j), copied(w)
	calls()
	if !reflect.DeepEqual(j, jobBefore) {
		t.Errorf("%s has changed the job %v to %v", what, jobBefore, j)
	}
	wantWall(t, what+" has changed the wall", w, wallBefore)
}
