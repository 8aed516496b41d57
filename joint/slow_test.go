package joint_test

import (
	"cmp"
	"slices"
	"testing"

	"copestone/joint"
	"copestone/place"
	"copestone/stone"
)

// stretch is a range of places, or of heights.
type stretch struct{ from, to int }

// overlap looks for a common stretch of the length 1: all ends are whole.
func overlap(a, b stretch) bool {
	for x := a.from; x < a.to; x++ {
		if b.from <= x && x+1 <= b.to {
			return true
		}
	}
	return false
}

// frame is what is around a laid stone.
type frame struct{ left, right, bottom, top int }

func frameOf(p placed) frame {
	turned, _ := stone.Turned(p.Stone, p.Way)
	wide, high, _ := stone.Extent(turned)
	return frame{p.At.X, p.At.X + wide, p.At.Z, p.At.Z + high}
}

func (f frame) high() stretch { return stretch{f.bottom, f.top} }

func (f frame) wide() stretch { return stretch{f.left, f.right} }

func framesOf(w wall) []frame {
	var l []frame
	for _, p := range w.Stones {
		l = append(l, frameOf(p))
	}
	return l
}

func inSkin(w wall, r rules) []int {
	var l []int
	for i, p := range w.Stones {
		if p.Skin == r.Skin || p.Skin == place.Through {
			l = append(l, i)
		}
	}
	return l
}

func jointsOf(w wall, r rules) joints {
	var l joints
	frames, skin := framesOf(w), inSkin(w, r)
	for _, a := range skin {
		for _, b := range skin {
			f, g := frames[a], frames[b]
			gap := g.left - f.right
			if a == b || gap < 0 || gap > r.Wide || !overlap(f.high(), g.high()) {
				continue
			}
			both := stretch{max(f.bottom, g.bottom), min(f.top, g.top)}
			third := slices.ContainsFunc(skin, func(c int) bool {
				h := frames[c]
				return c != a && c != b && overlap(h.high(), both) && overlap(h.wide(), stretch{f.right, g.left})
			})
			if !third {
				l = append(l, joint.Joint{A: a, B: b, Left: f.right, Right: g.left, From: both.from, To: both.to})
			}
		}
	}
	slices.SortFunc(l, func(j, k joint.Joint) int {
		return cmp.Or(cmp.Compare(j.From, k.From), cmp.Compare(j.Left, k.Left), cmp.Compare(j.A, k.A), cmp.Compare(j.B, k.B))
	})
	return l
}

// follow tells whether the joint k follows the joint j.
func follow(r rules, k, j joint.Joint) bool {
	difference := max(k.From-j.To, j.To-k.From)
	distance := 0
	if k.Left > j.Right {
		distance = k.Left - j.Right
	}
	if j.Left > k.Right {
		distance = j.Left - k.Right
	}
	return k.From > j.From && difference <= r.Step && distance < r.Lap
}

const mostRuns = 5000

// runningJoints returns all running joints; false, if there are too many of them.
func runningJoints(l joints, r rules) ([][]int, bool) {
	var all [][]int
	var extend func(run []int)
	extend = func(run []int) {
		if len(all) > mostRuns {
			return
		}
		all = append(all, run)
		last := l[run[len(run)-1]]
		for k := range l {
			if follow(r, l[k], last) {
				extend(append(slices.Clone(run), k))
			}
		}
	}
	for k := range l {
		extend([]int{k})
	}
	return all, len(all) <= mostRuns
}

// rootsOf looks at all running joints.
func rootsOf(l joints, all [][]int) []int {
	var roots []int
	for _, j := range l {
		roots = append(roots, j.From)
	}
	for _, run := range all {
		last := run[len(run)-1]
		roots[last] = min(roots[last], l[run[0]].From)
	}
	return roots
}

// longestOf follows the words of P5.2; there is a joint.
func longestOf(l joints, r rules, roots []int) (run []int, height int) {
	last := 0
	for k := range l {
		if l[k].To-roots[k] > l[last].To-roots[last] {
			last = k
		}
	}
	height = l[last].To - roots[last]
	for k := last; ; {
		run = append([]int{k}, run...)
		if l[k].From == roots[k] {
			return run, height
		}
		k = slices.IndexFunc(l, func(j joint.Joint) bool {
			return follow(r, l[k], j) && roots[slices.Index(l, j)] == roots[k]
		})
	}
}

func acceptsRuns(l joints, r rules, roots []int) bool {
	if len(roots) != len(l) {
		return false
	}
	for k := range l {
		if roots[k] > l[k].From || l[k].To-roots[k] > r.Run {
			return false
		}
		for j := range l {
			if follow(r, l[k], l[j]) && roots[k] > roots[j] {
				return false
			}
		}
	}
	return true
}

// bedsIn returns the stones of the skin on which a stone has a bed, for all
// stones.
func bedsIn(t *testing.T, w wall, r rules) [][]int {
	t.Helper()
	l := make([][]int, len(w.Stones))
	for _, i := range inSkin(w, r) {
		for _, b := range ok[[]place.Bed](t)(place.Beds(w, i, r.Pin)) {
			if slices.Contains(inSkin(w, r), b.By) {
				l[i] = append(l[i], b.By)
			}
		}
	}
	return l
}

// coursesOf lifts stones as long as one is not above all on which it lies.
func coursesOf(t *testing.T, w wall, r rules) []int {
	t.Helper()
	l := make([]int, len(w.Stones))
	for _, i := range inSkin(w, r) {
		l[i] = 1
	}
	beds := bedsIn(t, w, r)
	for lifted := true; lifted; {
		lifted = false
		for i := range beds {
			for _, by := range beds[i] {
				if l[i] <= l[by] {
					l[i], lifted = l[by]+1, true
				}
			}
		}
	}
	return l
}

func findingsOf(t *testing.T, w wall, r rules, roots []int) []finding {
	t.Helper()
	var l []finding
	frames, skin, courses := framesOf(w), inSkin(w, r), coursesOf(t, w, r)
	for k, j := range jointsOf(w, r) {
		if j.To-roots[k] > r.Run {
			l = append(l, finding{Kind: 1, At: k, Stone: -1, Amount: j.To - roots[k]})
		}
	}
	for k, j := range jointsOf(w, r) {
		for _, i := range skin {
			f := frames[i]
			difference := max(f.bottom-j.To, j.To-f.bottom)
			lap := min(j.Left-f.left, f.right-j.Right)
			if f.bottom > j.From && difference <= r.Step && f.left < j.Right+1 && f.right > j.Left-1 && lap < r.Lap {
				l = append(l, finding{Kind: 2, At: k, Stone: i, Amount: lap})
			}
		}
	}
	for _, i := range skin {
		if long := frames[i].right - frames[i].left; w.Stones[i].Stone.Depth < long {
			l = append(l, finding{Kind: 3, At: -1, Stone: i, Amount: long - w.Stones[i].Stone.Depth})
		}
	}
	for _, i := range skin {
		level := frames[i].top
		for _, c := range skin {
			if courses[c] == courses[i] {
				level = max(level, frames[c].top)
			}
		}
		if level-frames[i].top > r.Level {
			l = append(l, finding{Kind: 4, At: -1, Stone: i, Amount: level - frames[i].top})
		}
	}
	return l
}

// bareOf looks at all stretches whose ends are whole.
func bareOf(w wall, low, high, from, to int) int {
	longest := 0
	for a := from; a < to; a++ {
		for b := a + 1; b <= to; b++ {
			bare := true
			for i, f := range framesOf(w) {
				if w.Stones[i].Skin == place.Through && overlap(f.high(), stretch{low, high}) && overlap(f.wide(), stretch{a, b}) {
					bare = false
				}
			}
			if bare {
				longest = max(longest, b-a)
			}
		}
	}
	return longest
}
