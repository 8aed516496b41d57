package field_test

import (
	"fmt"
	"math"
	"math/rand"
	"slices"
	"testing"

	"copestone/api"
	"copestone/field"
)

// P1: the errors of all calls, the first one first; with an error there is no other
// result.

// result has what a call returns, but for its error.
func result(l ...any) string { return fmt.Sprint(l...) }

// wantNothing asks all calls, with cells and borders that are there and others, and
// wants this error, and nothing else.
func wantNothing(t *testing.T, what string, p drawing, m chart, a animal, e api.Errno, cells ...int) {
	t.Helper()
	for _, from := range cells {
		reached, got := field.Reached(p, m, a, from)
		want(t, fmt.Sprint(what, ": Reached from ", from), result(reached, got), result([]int{}, e))
		want(t, what+": ProvePen", field.ProvePen(p, m, a, from, []int{from}), false)
		want(t, what+": ProvePen", field.ProvePen(p, m, a, from, []int{0, 1}), false)
		for _, to := range cells {
			wantNothingBetween(t, what, p, m, a, from, to, e)
		}
	}
}

func wantNothingBetween(t *testing.T, what string, p drawing, m chart, a animal, from, to int, e api.Errno) {
	t.Helper()
	what = fmt.Sprint(what, " from ", from, " to ", to)
	l, effort, got := field.Walk(p, m, a, from, to)
	want(t, what+": Walk", result(l, effort, got), result([]step{}, 0, e))
	proof, got := field.Proof(p, m, a, from, to)
	want(t, what+": Proof", result(proof, got), result([]int{}, e))
	borders, walks, got := field.Close(p, m, a, from, to)
	want(t, what+": Close", result(borders, walks, got), result([]int{}, [][]step{}, e))
	want(t, what+": ProveWalk", field.ProveWalk(p, m, a, from, to, nil, []int{0, 0}), false)
	want(t, what+": ProveWalk of a step", field.ProveWalk(p, m, a, from, to, link0(0), []int{0, 1}), false)
	want(t, what+": ProveClose", field.ProveClose(p, m, a, from, to, nil, nil), false)
	want(t, what+": ProveClose of a border", field.ProveClose(p, m, a, from, to, []int{0}, [][]step{link0(0)}), false)
}

// wantInvalid wants ErrArg of all calls, before any other error.
func wantInvalid(t *testing.T, what string, p drawing, m chart, a animal) {
	t.Helper()
	wantErr(t, what, field.Check(p, m, a), api.ErrArg)
	for _, border := range []int{0, 1, -1, math.MaxInt} {
		way, effort, e := field.Across(p, m, a, border, border == 1)
		want(t, what+": Across", result(way, effort, e), result(0, 0, api.ErrArg))
	}
	free, blocked, e := field.Smoots(p, m, a)
	want(t, what+": Smoots", result(free, blocked, e), result([]place{}, []place{}, api.ErrArg))
	wantNothing(t, what, p, m, a, api.ErrArg, 0, 1, -1, math.MaxInt)
}

func TestErrorsOfArguments(t *testing.T) {
	wantInvalid(t, "nothing", drawing{}, chart{}, animal{})
	for what, p := range badPlans() {
		wantInvalid(t, what, p, moor(0, 0), hare)
	}
	for what, m := range badMaps() {
		wantInvalid(t, what, example(), m, hare)
	}
	for what, a := range badAnimals() {
		wantInvalid(t, what, example(), moor(0, 0), a)
	}
}

func TestErrorsOfRange(t *testing.T) {
	for _, n := range append([]int{-1, 1, 2}, far...) {
		for _, a := range []animal{hare, ewe} {
			way, effort, e := field.Across(example(), moor(0, 0), a, n, false)
			want(t, fmt.Sprint("Across ", n), result(way, effort, e), result(0, 0, api.ErrRange))
		}
	}
	way, effort, e := field.Across(example(), charted(2), hare, 0, true)
	want(t, "Across without borders", result(way, effort, e), result(0, 0, api.ErrRange))
	for _, n := range append([]int{-1, 2}, far...) {
		wantNothing(t, "no such cell", example(), moor(0, 0), ewe, api.ErrRange, n)
		for cell := range 2 {
			wantNothingBetween(t, "no such cell", example(), moor(0, 0), ewe, n, cell, api.ErrRange)
			wantNothingBetween(t, "no such cell", example(), moor(0, 0), ewe, cell, n, api.ErrRange)
		}
	}
	for cell := range 2 {
		borders, walks, e := field.Close(example(), moor(0, 0), ewe, cell, cell)
		want(t, "Close of equal cells", result(borders, walks, e), result([]int{}, [][]step{}, api.ErrRange))
	}
	want(t, "a cell behind the last one", field.ProvePen(example(), charted(39), ewe, 39, []int{39}), false)
}

func TestErrorsOfWalks(t *testing.T) {
	wantNoWalk(t, "no way", example(), moor(0, 0), ewe, 0, 1)
	borders, walks, e := field.Close(example(), moor(0, 0), ewe, 0, 1)
	want(t, "nothing to be closed", result(borders, walks, e), result([]int{}, [][]step{}, api.OK))
	for proof := range 3 {
		want(t, "ProveWalk", field.ProveWalk(example(), moor(0, 0), ewe, 0, 1, nil, []int{0, proof}), false)
		want(t, "ProveWalk", field.ProveWalk(example(), moor(0, 0), ewe, 0, 1, link0(0), []int{0, proof}), false)
	}
}

// Any values may be handed to any function.
func TestAnyValues(t *testing.T) {
	x := rand.New(rand.NewSource(914))
	number := func() int {
		return pick(x, 0, 0, 1, 1, 2, -1, 39, 40, 3000, -3001, math.MaxInt, math.MinInt, x.Int(), -x.Int())
	}
	numbers := func() []int {
		var l []int
		for range x.Intn(4) {
			l = append(l, number())
		}
		return l
	}
	steps := func() []step {
		var l []step
		for range x.Intn(4) {
			l = append(l, step{number(), number()})
		}
		return l
	}
	for range 20000 {
		m := charted(x.Intn(5))
		for range x.Intn(4) {
			m.Borders = append(m.Borders, border{number(), number(), pick(x, "north", "north", ""), pick(x, 0, number()), pick(x, 0, number()), true})
		}
		p := north(pick(x, smoot(250, 0, 220), stile(pick(x, 5, number()), 3), gate(200)))
		a := pick(x, hare, ewe, bird, animal{number(), number(), number(), number(), number()})
		from, to := number(), number()
		field.Check(p, m, a)
		field.Across(p, m, a, from, x.Intn(2) == 0)
		field.Reached(p, m, a, from)
		field.Walk(p, m, a, from, to)
		field.Proof(p, m, a, from, to)
		field.ProveWalk(p, m, a, from, to, steps(), numbers())
		field.ProvePen(p, m, a, from, numbers())
		field.Close(p, m, a, from, to)
		field.ProveClose(p, m, a, from, to, numbers(), [][]step{steps(), steps(), nil}[:x.Intn(4)])
		field.Smoots(p, m, a)
	}
}

// A result is new memory: what is written into one is not found in another one, nor
// in an argument.
func TestMemory(t *testing.T) {
	p, m := ladder(), charted(4, link(0, 1, 1), link(0, 2, 1), link(1, 2, 1), link(1, 3, 1), link(2, 3, 1))
	wantKept(t, p, m, func() {
		borders, walks, _ := field.Close(p, m, goat, 0, 3)
		for i := range walks {
			rest := append([][]step{}, walks[i+1:]...)
			before := fmt.Sprint(rest)
			walks[i] = append(walks[i], step{9, 9})
			want(t, "the other walks", fmt.Sprint(rest), before)
		}
		clear(borders)
		reached := ok[[]int](t)(field.Reached(p, m, goat, 0))
		clear(reached)
		steps, _, _ := field.Walk(p, m, goat, 0, 3)
		clear(steps)
		wantWalk(t, "again", p, m, goat, 0, 3, 2, link0(0, 3)...)
	})
	steps, proof, pen := link0(0, 3), []int{0, 1, 1, 2}, []int{0, 1, 2, 3}
	closed, walks := []int{0, 1}, [][]step{link0(0, 3), link0(1, 4)}
	want(t, "ProveWalk", field.ProveWalk(p, m, goat, 0, 3, steps, proof), true)
	want(t, "ProvePen", field.ProvePen(p, m, goat, 2, pen), true)
	want(t, "ProveClose", field.ProveClose(p, m, goat, 0, 3, closed, walks), true)
	want(t, "the arguments", slices.Equal(steps, link0(0, 3)) && slices.Equal(proof, []int{0, 1, 1, 2}) && slices.Equal(pen, []int{0, 1, 2, 3}), true)
	want(t, "the closing", fmt.Sprint(closed, walks), fmt.Sprint([]int{0, 1}, [][]step{link0(0, 3), link0(1, 4)}))
}
