package build

import (
	"iter"
	"slices"

	"copestone/api"
	"copestone/place"
	"copestone/plan"
	"copestone/stone"
)

const waysToLay = 8

// choice is a stone of the heap in a way, as wide and as high as it is then.
type choice struct {
	stone.Stone
	way        int
	wide, high int
}

// choices returns the stones of the heap in all ways that make a shape of its own
// and that is as high as the course asks, in the order in which they are tried.
func (l layer) choices() []choice {
	var all []choice
	for _, s := range l.Heap {
		var shapes [][]stone.Point
		for way := range waysToLay {
			turned, _ := stone.Turned(s, way)
			if slices.ContainsFunc(shapes, func(shape []stone.Point) bool { return slices.Equal(shape, turned.Shape) }) {
				continue
			}
			shapes = append(shapes, turned.Shape)
			c := choice{Stone: s, way: way}
			c.wide, c.high, _ = stone.Extent(turned)
			if high := l.To - l.From; within(c.high, high-l.Level, high+l.Level) {
				all = append(all, c)
			}
		}
	}
	return all
}

// tries yields what may be tried at the left end of a part, in its order: laid
// above the course.
func (l layer) tries(choices []choice, w place.Wall, part plan.Bay) iter.Seq[place.Placed] {
	open := l.open(l.stones(w))
	return func(yield func(p place.Placed) bool) {
		for _, c := range choices {
			stretch := plan.Bay{From: part.From, To: part.From + c.wide}
			if stretch.To > part.To || has(w, c.Name) {
				continue
			}
			skin, suits := l.skinFor(c, stretch, open)
			at := stone.Point{X: part.From, Z: l.To}
			if suits && !yield(place.Placed{Stone: c.Stone, Way: c.way, At: at, Skin: skin}) {
				return
			}
		}
	}
}

// skinFor returns the skin of a stone at a stretch with some open throughs; false,
// if the stone is not deep enough for it, or too deep.
func (l layer) skinFor(c choice, stretch plan.Bay, open []int) (skin uint8, suits bool) {
	if slices.ContainsFunc(open, func(p int) bool { return within(p, stretch.From, stretch.To) }) {
		return place.Through, c.Depth >= l.width
	}
	return l.Skin, c.Depth <= l.width
}

// lay returns the wall with one more stone, which is let down from above the
// course; false, if it cannot be laid.
func (l layer) lay(w place.Wall, p place.Placed) (place.Wall, bool) {
	down, e := place.Drop(w, p)
	if e != api.OK {
		return place.Wall{}, false
	}
	p.At.Z -= down
	// Walls that are tried after each other begin with the same stones: none may
	// write behind the stones of another one.
	count := len(w.Stones)
	w.Stones = append(w.Stones[:count:count], p)
	return w, l.fits(bodyOf(p)) && l.isBonded(w)
}

// gap returns the first free part that is not filled; false, if all are.
func (l layer) gap(w place.Wall) (plan.Bay, bool) {
	parts := l.free(l.stones(w))
	i := slices.IndexFunc(parts, l.isTooWide)
	if i < 0 {
		return plan.Bay{}, false
	}
	return parts[i], true
}

// isDone tells whether a course all of whose parts are filled is as it should be.
func (l layer) isDone(w place.Wall) bool {
	return len(l.open(l.stones(w))) == 0 && l.isBonded(w) && l.stands(w)
}

// fill returns the wall with the first filling. It changes no list of the wall,
// but may share them.
func (l layer) fill(w place.Wall) (next place.Wall, tries int, e api.Errno) {
	// Too many tries are thrown, from however deep in the search.
	defer func() {
		if thrown := recover(); thrown != nil {
			next, tries, e = place.Wall{}, 0, api.ErrVoid
			if known, ok := thrown.(api.Errno); ok {
				e = known
			}
		}
	}()
	choices := l.choices()
	var search func(w place.Wall) bool
	search = func(w place.Wall) bool {
		part, found := l.gap(w)
		if !found {
			next = w
			return l.isDone(w)
		}
		for p := range l.tries(choices, w, part) {
			if tries == api.MaxLays {
				panic(api.ErrLimit)
			}
			tries++
			if grown, laid := l.lay(w, p); laid && search(grown) {
				return true
			}
		}
		return false
	}
	if !search(w) {
		return place.Wall{}, 0, api.ErrVoid
	}
	return next, tries, api.OK
}

// build fills one course after the other, each in one skin or in both, and returns
// why it ended.
func (y yard) build(both bool) (w place.Wall, courses int, why api.Errno) {
	skins := []yard{y}
	if both {
		skins = append(skins, y.turned())
	}
	w = y.start()
	for i := range y.courses {
		next := w
		for _, skin := range skins {
			if next, _, why = skin.layer(i).fill(next); why != api.OK {
				return w, i, why
			}
		}
		w = next
	}
	return w, len(y.courses), api.OK
}
