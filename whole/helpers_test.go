package whole_test

import (
	"math"
	"math/big"
	"math/rand"
	"strings"
	"testing"

	"copestone/api"
	"copestone/whole"
)

// The tests hold the package against math/big, with which they share only the
// texts of numbers.

func number(t *testing.T, s string) whole.Z {
	t.Helper()
	a, e := whole.ParseZ(s)
	if e != api.OK {
		t.Fatalf("ParseZ(%.40q): %v", s, e)
	}
	return a
}

func ratio(t *testing.T, s string) whole.R {
	t.Helper()
	a, e := whole.Parse(s)
	if e != api.OK {
		t.Fatalf("Parse(%.40q): %v", s, e)
	}
	return a
}

func ratios(t *testing.T, l ...string) []whole.R {
	t.Helper()
	var r []whole.R
	for _, s := range l {
		r = append(r, ratio(t, s))
	}
	return r
}

func pair(t *testing.T, x, z string) whole.V {
	t.Helper()
	return whole.V{X: ratio(t, x), Z: ratio(t, z)}
}

// exact returns the Z of any size with this value.
func exact(t *testing.T, n *big.Int) whole.Z {
	t.Helper()
	s := n.String()
	if len(s) <= 950 {
		return number(t, s)
	}
	unit := new(big.Int).Exp(big.NewInt(10), big.NewInt(900), nil)
	high, low := new(big.Int).QuoRem(n, unit, new(big.Int))
	return exact(t, high).Mul(number(t, unit.String())).Add(exact(t, low))
}

func wantText(t *testing.T, what, got, want string) {
	t.Helper()
	if got != want {
		t.Errorf("%s: %.120q, want %.120q", what, got, want)
	}
}

func wantErr(t *testing.T, what string, got, want api.Errno) {
	t.Helper()
	if got != want {
		t.Errorf("%s: %v, want %v", what, got, want)
	}
}

func wantInt(t *testing.T, what string, got, want int) {
	t.Helper()
	if got != want {
		t.Errorf("%s: %d, want %d", what, got, want)
	}
}

// edges are numbers at which an implementation changes its mind: around 0, and
// around powers of 2 and of 10 (the sizes of words, and of groups of digits).
func edges() []*big.Int {
	l := []*big.Int{big.NewInt(0), big.NewInt(3), big.NewInt(7), big.NewInt(math.MaxInt64), big.NewInt(math.MinInt64)}
	around := func(n *big.Int) {
		for d := int64(-1); d <= 1; d++ {
			m := new(big.Int).Add(n, big.NewInt(d))
			l = append(l, m, new(big.Int).Neg(m))
		}
	}
	for _, k := range []uint{1, 8, 31, 32, 62, 63, 64, 65, 96, 127, 128, 192, 255} {
		around(new(big.Int).Lsh(big.NewInt(1), k))
	}
	for _, k := range []int64{1, 9, 18, 19, 20, 37, 38, 39} {
		around(new(big.Int).Exp(big.NewInt(10), big.NewInt(k), nil))
	}
	return l
}

// strange returns a number whose bits come in long runs, which makes carries
// run far and guesses of quotients wrong.
func strange(r *rand.Rand, most int) *big.Int {
	n, bits := new(big.Int), 1+r.Intn(most)
	for n.BitLen() < bits {
		run := uint(1 + r.Intn(80))
		n.Lsh(n, run)
		switch r.Intn(4) {
		case 0:
			n.Add(n, new(big.Int).Sub(new(big.Int).Lsh(big.NewInt(1), run), big.NewInt(1)))
		case 1:
			n.Add(n, big.NewInt(1))
		case 2:
			n.Add(n, new(big.Int).Rand(r, new(big.Int).Lsh(big.NewInt(1), run)))
		}
		if n.Sign() == 0 {
			n.SetInt64(1)
		}
	}
	if r.Intn(2) == 0 {
		n.Neg(n)
	}
	return n
}

// eachPair calls check with all pairs of edges, and with pairs of strange
// numbers of many sizes.
func eachPair(t *testing.T, check func(a, b *big.Int)) {
	t.Helper()
	l := edges()
	for _, a := range l {
		for _, b := range l {
			check(a, b)
		}
	}
	r := rand.New(rand.NewSource(1))
	for i := 0; i < 6000 && !t.Failed(); i++ {
		check(strange(r, 700), strange(r, 700))
	}
	for i := 0; i < 200 && !t.Failed(); i++ {
		check(strange(r, 8000), strange(r, 8000))
		check(strange(r, 8000), strange(r, 200))
	}
}

// someRatios returns ratios of all signs and sizes.
func someRatios(r *rand.Rand, n int) []*big.Rat {
	l := []*big.Rat{new(big.Rat), big.NewRat(1, 1), big.NewRat(-1, 1), big.NewRat(1, 2), big.NewRat(-1, 2), big.NewRat(-7, 2), big.NewRat(7, 2), big.NewRat(5, 6), big.NewRat(-3, 4), big.NewRat(math.MaxInt64, math.MaxInt64-1), big.NewRat(math.MinInt64, 3), big.NewRat(1, math.MinInt64)}
	for len(l) < n {
		size := []int{6, 20, 40, 64, 70, 130, 400}[r.Intn(7)]
		d := strange(r, size)
		l = append(l, new(big.Rat).SetFrac(strange(r, size), d))
	}
	return l
}

// exactRatio returns the R with this value.
func exactRatio(t *testing.T, n *big.Rat) whole.R {
	t.Helper()
	a, e := whole.OfZ(exact(t, n.Num()), exact(t, n.Denom()))
	if e != api.OK {
		t.Fatalf("OfZ: %v", e)
	}
	return a
}

func digitText(first string, n int) string { return first + strings.Repeat("7", n-len(first)) }
