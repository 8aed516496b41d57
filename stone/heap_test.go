package stone_test

import (
	"fmt"
	"math/rand"
	"slices"
	"strings"
	"testing"

	"copestone/api"
	"copestone/stone"
)

const brickText = "brick 100 2400 1 0 0 0 200 0 200 80 0 80\n"

// bricks returns so many bricks with different names.
func bricks(n int) []stone.Stone {
	var l []stone.Stone
	for i := range n {
		l = append(l, box(fmt.Sprint("b", i), 200, 80))
	}
	return l
}

func randomHeap(r *rand.Rand, n int) []stone.Stone {
	var l []stone.Stone
	for i := range n {
		s := random(r, 1+r.Intn(30), 1+r.Intn(30))
		s.Name = fmt.Sprint("n", i)
		if r.Intn(3) == 0 {
			s.Depth, s.Density, s.Shape = 5, 5, box("", 2, 2).Shape
		}
		l = append(l, s)
	}
	r.Shuffle(n, func(i, j int) { l[i], l[j] = l[j], l[i] })
	return l
}

func badHeaps() map[string][]stone.Stone {
	l := map[string][]stone.Stone{
		"a name twice":       {brick(), brick()},
		"a name twice, far":  append(bricks(20), bricks(1)...),
		"one stone too many": bricks(api.MaxHeap + 1),
		"a zero stone":       {{}},
	}
	for what, s := range broken() {
		l["a heap with "+what] = append(bricks(2), s)
	}
	return l
}

// P2.9: CheckHeap.

func TestCheckHeap(t *testing.T) {
	wantErr(t, "nil", stone.CheckHeap(nil), api.OK)
	wantErr(t, "empty", stone.CheckHeap([]stone.Stone{}), api.OK)
	wantErr(t, "one", stone.CheckHeap([]stone.Stone{brick()}), api.OK)
	wantErr(t, "as many as may be", stone.CheckHeap(bricks(api.MaxHeap)), api.OK)
	for what, l := range badHeaps() {
		wantErr(t, what, stone.CheckHeap(l), api.ErrArg)
	}
}

// Total, Sorted, Print: ErrArg.

func TestInvalidHeaps(t *testing.T) {
	for what, l := range badHeaps() {
		n, e := stone.Total(l)
		want(t, what, []any{n, e}, []any{int64(0), api.ErrArg})
		text, e := stone.Print(l)
		want(t, what, []any{text, e}, []any{"", api.ErrArg})
		sorted, e := stone.Sorted(l)
		want(t, what, []any{len(sorted), e}, []any{0, api.ErrArg})
	}
}

// P2.9: Parse.

func TestParse(t *testing.T) {
	for _, c := range []struct {
		text string
		heap []stone.Stone
	}{
		{"", nil},
		{"\n", nil},
		{"\n\n\n", nil},
		{brickText, []stone.Stone{brick()}},
		{strings.TrimSuffix(brickText, "\n"), []stone.Stone{brick()}},
		{"\n\n" + brickText + "\n", []stone.Stone{brick()}},
		{"s 7 3 2 -1 0 0 1 0 0 1\n\nt 7 3 2 -1 1 0 2 1 0 2", []stone.Stone{shaped("s", point{0, 0}, point{1, 0}, point{0, 1}), shaped("t", point{1, 0}, point{2, 1}, point{0, 2})}},
		{"0 2000 10000 -100 100 0 0 2000 0 2000 2000 0 2000\n", []stone.Stone{{Name: "0", Shape: box("", 2000, 2000).Shape, Depth: 2000, Density: 10000, Grain: point{-100, 100}}}},
		{"t 7 3 2 -1 3 0 6 0 8 1 9 3 9 6 8 8 6 9 3 9 1 8 0 6 0 3 1 1", []stone.Stone{shaped("t", twelve()...)}},
	} {
		l, line, e := stone.Parse(c.text)
		want(t, c.text, []any{line, e}, []any{0, api.OK})
		want(t, c.text, len(l), len(c.heap))
		for i := range l {
			want(t, c.text, l[i], c.heap[i])
		}
	}
}

func TestParseErrors(t *testing.T) {
	many, _ := stone.Print(bricks(api.MaxHeap))
	for _, c := range []struct {
		text string
		line int
		e    api.Errno
	}{
		{strings.Repeat("\n", api.MaxText+1), 0, api.ErrLimit},
		{strings.Repeat("?", api.MaxText+1), 0, api.ErrLimit},
		{strings.Repeat("\n", api.MaxText), 0, api.OK},
		{strings.Repeat("\n", api.MaxText-1) + "x", api.MaxText, api.ErrForm},
		{many, 0, api.OK},
		{many + "\n\n", 0, api.OK},
		{many + "x 7 3 2 -1 0 0 1 0 0 1", 201, api.ErrLimit},
		{"\n" + many + "\n\n?", 204, api.ErrLimit},
		{many + " ", 201, api.ErrLimit},
		{many + "b0 7 3 2 -1 0 0 1 0 0 1", 201, api.ErrLimit},
		{" ", 1, api.ErrForm},
		{"\n \n", 2, api.ErrForm},
		{brickText + "\n\n" + "x\n" + brickText, 4, api.ErrForm},
		{"s", 1, api.ErrForm},
		{"s 7 3 2 -1 0 0 1 0", 1, api.ErrForm},
		{"s 7 3 2 -1 0 0 1 0 0", 1, api.ErrForm},
		{"s 7 3 2 -1 0 0 1 0 0 1 ", 1, api.ErrForm},
		{"s 7 3 2 -1 0 0 1 0 0 1 ?", 1, api.ErrForm},
		{"s 7 3 2 -1 0 0 1 0 0 1 1", 1, api.ErrForm},
		{"s 7 3 2 -1 0 0 1 0 0 1 1 ", 1, api.ErrForm},
		{" s 7 3 2 -1 0 0 1 0 0 1", 1, api.ErrForm},
		{"  7 3 2 -1 0 0 1 0 0 1", 1, api.ErrForm},
		{" 7 3 2 -1 0 0 1 0 0 1", 1, api.ErrForm},
		{"s  7 3 2 -1 0 0 1 0 0 1", 1, api.ErrForm},
		{"s 7 3 2 -1 0 0 1  0 0 1 1", 1, api.ErrForm},
		{"s 7 3 2 -1 0 0 1 0 0\t1", 1, api.ErrForm},
		{"s 7 3 2 -1 0 0 1 0 0 1\r\n", 1, api.ErrForm},
		{"s 7 3 2 -1 0 0 1 0 0 1 1 1\r", 1, api.ErrForm},
		{"s 07 3 2 -1 0 0 1 0 0 1", 1, api.ErrForm},
		{"s 7 3 2 -1 00 0 1 0 0 1", 1, api.ErrForm},
		{"s 7 3 2 -01 0 0 1 0 0 1", 1, api.ErrForm},
		{"s 7 3 +2 -1 0 0 1 0 0 1", 1, api.ErrForm},
		{"s 7 3 2 - 0 0 1 0 0 1", 1, api.ErrForm},
		{"s 7 3 2 --1 0 0 1 0 0 1", 1, api.ErrForm},
		{"s 7 3 2 -1 -0 0 1 0 0 1", 1, api.ErrForm},
		{"s 7 3 2 -1 0 0 1 0 0 x", 1, api.ErrForm},
		{"s 7 3 2 -1 0 0 1 0 0 1x", 1, api.ErrForm},
		{"s 7 3 2 -1 0 0 1 0 0 0x1", 1, api.ErrForm},
		{"s 7 3 2 -1 0 0 1 0 0 1_0", 1, api.ErrForm},
		{"s 7 3 2 -1 0 0 1 0 0 1.0", 1, api.ErrForm},
		{"s 7 3 2 -1 0 0 1 0 0 ١", 1, api.ErrForm},
		{"s 1000000 3 2 -1 0 0 1 0 0 1", 1, api.ErrForm},
		{"s -100000 3 2 -1 0 0 1 0 0 1", 1, api.ErrForm},
		{"s 99999999999999999999 3 2 -1 0 0 1 0 0 1", 1, api.ErrForm},
		{"S 7 3 2 -1 0 0 1 0 0 1000000", 1, api.ErrForm},
		{"s 999999 3 2 -1 0 0 1 0 0 1", 1, api.ErrArg},
		{"s -99999 3 2 -1 0 0 1 0 0 1", 1, api.ErrArg},
		{"S 7 3 2 -1 0 0 1 0 0 1", 1, api.ErrArg},
		{"s\t 7 3 2 -1 0 0 1 0 0 1", 1, api.ErrArg},
		{"12345678901234567 7 3 2 -1 0 0 1 0 0 1", 1, api.ErrArg},
		{"s 0 3 2 -1 0 0 1 0 0 1", 1, api.ErrArg},
		{"s 7 10001 2 -1 0 0 1 0 0 1", 1, api.ErrArg},
		{"s 7 3 0 0 0 0 1 0 0 1", 1, api.ErrArg},
		{"s 7 3 2 -1 0 0 0 1 1 0", 1, api.ErrArg},
		{"s 7 3 2 -1 3 0 6 0 8 1 9 2 10 4 10 7 8 9 6 10 3 10 1 9 0 7 0 4 1 1", 1, api.ErrArg},
		{brickText + brickText, 2, api.ErrTwice},
		{brickText + "\n" + "s 7 3 2 -1 0 0 1 0 0 1\n\nbrick 7 3 2 -1 0 0 1 0 0 1\n?", 5, api.ErrTwice},
		{brickText + "brick 0 3 2 -1 0 0 1 0 0 1", 2, api.ErrArg},
		{brickText + "brick 7 3 2 -1 0 0 1 0 0 1 ", 2, api.ErrForm},
		{brickText + brickText + "?", 2, api.ErrTwice},
		{"?\n" + brickText + brickText, 1, api.ErrForm},
	} {
		l, line, e := stone.Parse(c.text)
		what := fmt.Sprintf("%.60q .. %.30q", c.text, c.text[max(0, len(c.text)-30):])
		want(t, what, []any{line, e}, []any{c.line, c.e})
		if c.e != api.OK {
			want(t, what, len(l), 0)
		}
	}
}

// P2.9: Print.

func TestPrint(t *testing.T) {
	want(t, "nothing", ok[string](t)(stone.Print(nil)), "")
	want(t, "a brick", ok[string](t)(stone.Print([]stone.Stone{brick()})), brickText)
	two := []stone.Stone{shaped("t", point{1, 0}, point{2, 1}, point{0, 2}), brick()}
	want(t, "two stones", ok[string](t)(stone.Print(two)), "t 7 3 2 -1 1 0 2 1 0 2\n"+brickText)
}

// P2.15: Parse of what Print returns is the heap.

func TestParseOfPrint(t *testing.T) {
	r := rand.New(rand.NewSource(21))
	for _, n := range []int{0, 1, 2, 3, 10, 50, api.MaxHeap} {
		heap := randomHeap(r, n)
		text := ok[string](t)(stone.Print(heap))
		l, line, e := stone.Parse(text)
		want(t, "line and error", []any{line, e}, []any{0, api.OK})
		want(t, "length", len(l), len(heap))
		for i := range l {
			want(t, "stone", l[i], heap[i])
		}
	}
}

// The greatest heap's text is not longer than a text may be.
func TestParseOfLongestPrint(t *testing.T) {
	var heap []stone.Stone
	for i := range api.MaxHeap {
		s := stone.Stone{Name: fmt.Sprintf("%016d", i), Shape: scaled(222), Depth: 2000, Density: 10000, Grain: point{-100, -100}}
		heap = append(heap, s)
	}
	l, line, e := stone.Parse(ok[string](t)(stone.Print(heap)))
	want(t, "line and error", []any{line, e}, []any{0, api.OK})
	want(t, "heap", l, heap)
}

// P2.10: Total, Sorted.

func TestTotal(t *testing.T) {
	want(t, "nothing", ok[int64](t)(stone.Total(nil)), 0)
	want(t, "bricks", ok[int64](t)(stone.Total(bricks(3))), 3*7680000000)
	r := rand.New(rand.NewSource(23))
	heap := randomHeap(r, 50)
	var sum int64
	for _, s := range heap {
		sum += ok[int64](t)(stone.Weight(s))
	}
	want(t, "a heap", ok[int64](t)(stone.Total(heap)), sum)
	heap = nil
	for i := range api.MaxHeap {
		s := box(fmt.Sprint("m", i), 2000, 2000)
		s.Depth, s.Density = 2000, 10000
		heap = append(heap, s)
	}
	want(t, "the heaviest heap", ok[int64](t)(stone.Total(heap)), 200*160000000000000)
}

func TestSorted(t *testing.T) {
	names := func(l []stone.Stone) string {
		var r []string
		for _, s := range l {
			r = append(r, s.Name)
		}
		return strings.Join(r, " ")
	}
	want(t, "nothing", len(ok[[]stone.Stone](t)(stone.Sorted(nil))), 0)
	l := []stone.Stone{box("b", 2, 2), box("c", 3, 3), box("b10", 2, 2), box("9", 2, 2), box("a", 1, 1), box("b2", 4, 1), box("ab", 3, 3)}
	want(t, "names", names(ok[[]stone.Stone](t)(stone.Sorted(l))), "ab c 9 b b10 b2 a")
	want(t, "the argument", names(l), "b c b10 9 a b2 ab")
}

func TestSortedRandomHeaps(t *testing.T) {
	r := rand.New(rand.NewSource(24))
	for range 20 {
		heap := randomHeap(r, r.Intn(60))
		kept := slices.Clone(heap)
		l := ok[[]stone.Stone](t)(stone.Sorted(heap))
		want(t, "the argument", heap, kept)
		want(t, "length", len(l), len(heap))
		for i, s := range l {
			if !slices.ContainsFunc(heap, func(v stone.Stone) bool { return fmt.Sprint(v) == fmt.Sprint(s) }) {
				t.Errorf("%v is not of the heap", s)
			}
			if i > 0 {
				a, b := ok[int64](t)(stone.Weight(l[i-1])), ok[int64](t)(stone.Weight(s))
				want(t, "order", a > b || a == b && l[i-1].Name < s.Name, true)
			}
		}
	}
}

// R4: what Sorted returns is a list of its own.

func TestSortedSharesNoList(t *testing.T) {
	heap := bricks(3)
	l, _ := stone.Sorted(heap)
	l[0].Name = "x"
	want(t, "the heap", heap, bricks(3))
}
