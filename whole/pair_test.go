package whole_test

import (
	"math/big"
	"math/rand"
	"testing"

	"copestone/whole"
)

// P1.8

func TestPairs(t *testing.T) {
	a, b := pair(t, "1", "2"), pair(t, "3", "4")
	wantText(t, "Cross", a.Cross(b).Text(), "-2")
	wantText(t, "Dot", a.Dot(b).Text(), "11")
	wantText(t, "Add", a.Add(b).Text(), "(4, 6)")
	wantText(t, "Sub", a.Sub(b).Text(), "(-2, -2)")
	wantText(t, "Scale", a.Scale(ratio(t, "-3/2")).Text(), "(-3/2, -3)")
	wantText(t, "Scale by 0", a.Scale(whole.R{}).Text(), "(0, 0)")
	wantText(t, "Text", pair(t, "-1/2", "7").Text(), "(-1/2, 7)")
	wantText(t, "Text of large parts", pair(t, "18446744073709551616", "-1/18446744073709551617").Text(), "(18446744073709551616, -1/18446744073709551617)")
}

func TestSame(t *testing.T) {
	a := pair(t, "6/4", "-2")
	for _, c := range []struct {
		x, z string
		want bool
	}{{"3/2", "-2", true}, {"3/2", "2", false}, {"-3/2", "-2", false}, {"-2", "3/2", false}, {"3/2", "0", false}, {"0", "-2", false}, {"0", "0", false}} {
		if b := pair(t, c.x, c.z); a.Same(b) != c.want || b.Same(a) != c.want {
			t.Errorf("Same of %s and %s: %v", a.Text(), b.Text(), a.Same(b))
		}
	}
	large := pair(t, "18446744073709551616", "1/18446744073709551616")
	if !large.Same(pair(t, "36893488147419103232/2", "2/36893488147419103232")) || large.Same(pair(t, "18446744073709551616", "1/18446744073709551617")) {
		t.Error("Same of large pairs")
	}
}

func TestZeroPair(t *testing.T) {
	var a whole.V
	b := pair(t, "5/3", "-7")
	wantText(t, "the zero V", a.Text(), "(0, 0)")
	wantText(t, "0 + b", a.Add(b).Text(), "(5/3, -7)")
	wantText(t, "0 - b", a.Sub(b).Text(), "(-5/3, 7)")
	wantText(t, "Dot", a.Dot(b).Text(), "0")
	wantText(t, "Cross", a.Cross(b).Text(), "0")
	wantText(t, "Scale", a.Scale(whole.Of(9)).Text(), "(0, 0)")
	if !a.Same(b.Sub(b)) || a.Same(b) {
		t.Error("Same of the zero V")
	}
}

// bigPair is a pair of math/big's ratios.
type bigPair struct{ x, z *big.Rat }

func (p bigPair) text() string { return "(" + p.x.RatString() + ", " + p.z.RatString() + ")" }

func product(a, b *big.Rat) *big.Rat { return new(big.Rat).Mul(a, b) }

func TestPairOperations(t *testing.T) {
	r := rand.New(rand.NewSource(12))
	l := someRatios(r, 60)
	pick := func() bigPair { return bigPair{l[r.Intn(len(l))], l[r.Intn(len(l))]} }
	for range 1000 {
		p, q, k := pick(), pick(), l[r.Intn(len(l))]
		a, b := whole.V{X: exactRatio(t, p.x), Z: exactRatio(t, p.z)}, whole.V{X: exactRatio(t, q.x), Z: exactRatio(t, q.z)}
		wantText(t, "Text", a.Text(), p.text())
		wantText(t, "Add", a.Add(b).Text(), bigPair{new(big.Rat).Add(p.x, q.x), new(big.Rat).Add(p.z, q.z)}.text())
		wantText(t, "Sub", a.Sub(b).Text(), bigPair{new(big.Rat).Sub(p.x, q.x), new(big.Rat).Sub(p.z, q.z)}.text())
		wantText(t, "Scale", a.Scale(exactRatio(t, k)).Text(), bigPair{product(p.x, k), product(p.z, k)}.text())
		wantText(t, "Dot", a.Dot(b).Text(), new(big.Rat).Add(product(p.x, q.x), product(p.z, q.z)).RatString())
		wantText(t, "Cross", a.Cross(b).Text(), new(big.Rat).Sub(product(p.x, q.z), product(p.z, q.x)).RatString())
		if a.Same(b) != (p.x.Cmp(q.x) == 0 && p.z.Cmp(q.z) == 0) || !a.Same(a) {
			t.Errorf("Same of %s and %s", p.text(), q.text())
		}
		wantText(t, "a", a.Text(), p.text())
	}
}

// P1.13

func TestPairLaws(t *testing.T) {
	r := rand.New(rand.NewSource(13))
	l := someRatios(r, 60)
	pick := func() whole.R { return exactRatio(t, l[r.Intn(len(l))]) }
	for range 1000 {
		a, b, k := whole.V{X: pick(), Z: pick()}, whole.V{X: pick(), Z: pick()}, pick()
		d, c := a.Dot(b), a.Cross(b)
		if d.Mul(d).Add(c.Mul(c)).Cmp(a.Dot(a).Mul(b.Dot(b))) != 0 {
			t.Errorf("Dot² + Cross² of %s and %s", a.Text(), b.Text())
		}
		if a.Cross(a.Scale(k)).Sign() != 0 || a.Scale(k).Cross(a).Sign() != 0 {
			t.Errorf("Cross of %s and its multiple by %s", a.Text(), k.Text())
		}
	}
}
