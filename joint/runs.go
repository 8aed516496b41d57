package joint

import (
	"iter"
	"slices"
)

// goesOn tells whether what begins at a height begins where the joint ends.
func (s survey) goesOn(j Joint, height int) bool {
	return height > j.From && within(height-j.To, -s.Step, s.Step)
}

func (s survey) follows(k, j Joint) bool {
	return s.goesOn(j, k.From) && k.across().distance(j.across()) < s.Lap
}

// before yields the numbers of the joints that the joint k follows, rising. All
// of them begin below it, and so stand before it in the list.
func (s survey) before(k int) iter.Seq[int] {
	return func(yield func(j int) bool) {
		for j := range k {
			if s.follows(s.joints[k], s.joints[j]) && !yield(j) {
				return
			}
		}
	}
}

// roots returns the root of each joint: its own From, or the least root of those
// that it follows.
func (s survey) roots() []int {
	l := make([]int, len(s.joints))
	for k, joint := range s.joints {
		l[k] = joint.From
		for j := range s.before(k) {
			l[k] = min(l[k], l[j])
		}
	}
	return l
}

// heights returns, for each joint, that of the highest running joint that ends
// with it.
func (s survey) heights(roots []int) []int {
	l := make([]int, len(s.joints))
	for k, joint := range s.joints {
		l[k] = joint.To - roots[k]
	}
	return l
}

// longest wants at least one joint.
func (s survey) longest() (run []int, height int) {
	roots := s.roots()
	heights := s.heights(roots)
	height = slices.Max(heights)
	last := slices.Index(heights, height)
	return s.runTo(last, roots), height
}

// runTo returns the running joint that ends with the joint k, and begins at its
// root.
func (s survey) runTo(k int, roots []int) []int {
	run := []int{k}
	for s.joints[k].From != roots[k] {
		k = s.towardsRoot(k, roots)
		run = append(run, k)
	}
	slices.Reverse(run)
	return run
}

// towardsRoot returns the first joint with the same root that the joint k, which
// does not begin at its root, follows.
func (s survey) towardsRoot(k int, roots []int) int {
	for j := range s.before(k) {
		if roots[j] == roots[k] {
			return j
		}
	}
	return k
}

// isBoundBy tells whether numbers, which may be any, are at most the roots, and
// no joint is by more than Run above its number.
func (s survey) isBoundBy(roots []int) bool {
	if len(roots) != len(s.joints) {
		return false
	}
	for k, joint := range s.joints {
		if !within(roots[k], joint.To-s.Run, joint.From) {
			return false
		}
		for j := range s.before(k) {
			if roots[k] > roots[j] {
				return false
			}
		}
	}
	return true
}
