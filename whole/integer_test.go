package whole_test

import (
	"math"
	"math/big"
	"math/rand"
	"strconv"
	"strings"
	"testing"

	"copestone/api"
	"copestone/whole"
)

// P1.1

func TestInt(t *testing.T) {
	for _, n := range []int64{0, 1, -1, 9, 10, -10, 1<<32 - 1, 1 << 32, -(1 << 32), math.MaxInt64, math.MaxInt64 - 1, math.MinInt64, math.MinInt64 + 1} {
		a := whole.Int(n)
		wantText(t, "Int", a.Text(), strconv.FormatInt(n, 10))
		if m, ok := a.Int64(); m != n || !ok {
			t.Errorf("Int64 of Int(%d): %d, %v", n, m, ok)
		}
		if a.Cmp(number(t, strconv.FormatInt(n, 10))) != 0 {
			t.Errorf("Int(%d) is not the number of its text", n)
		}
	}
}

func TestParseZ(t *testing.T) {
	for s, want := range map[string]string{
		"0": "0", "-0": "0", "5": "5", "-5": "-5", "10": "10", "-100": "-100", "9007199254740993": "9007199254740993",
		"9223372036854775807": "9223372036854775807", "-9223372036854775808": "-9223372036854775808",
		"18446744073709551615": "18446744073709551615", "18446744073709551616": "18446744073709551616",
		"10000000000000000000": "10000000000000000000", "100000000000000000000000000000000000000": "100000000000000000000000000000000000000",
		"-340282366920938463463374607431768211456": "-340282366920938463463374607431768211456",
	} {
		a, e := whole.ParseZ(s)
		wantErr(t, "ParseZ "+s, e, api.OK)
		wantText(t, "ParseZ "+s, a.Text(), want)
	}
	if number(t, "-0").Sign() != 0 || number(t, "-0").Cmp(whole.Z{}) != 0 {
		t.Error("-0 is not 0")
	}
}

func TestParseZForm(t *testing.T) {
	for _, s := range []string{"", "-", "+", "+1", "--1", "-+1", "+-1", "007", "00", "-00", "-01", "01", "1-", "1-2", "12a", "a", "0x10", "1_000", "1.0", "1e3", " 1", "1 ", "1\n", "\x00", "1\x002", "٣", "１", "1/2", "-18446744073709551616x", strings.Repeat("0", 1000), strings.Repeat("-", 1000)} {
		a, e := whole.ParseZ(s)
		wantErr(t, "ParseZ "+strconv.Quote(s), e, api.ErrForm)
		wantText(t, "ParseZ "+strconv.Quote(s), a.Text(), "0")
	}
}

func TestParseZEveryByte(t *testing.T) {
	for c := 0; c < 256; c++ {
		want := api.ErrForm
		if c >= '0' && c <= '9' {
			want = api.OK
		}
		for _, s := range []string{"1" + string([]byte{byte(c)}), "1" + string([]byte{byte(c)}) + "1"} {
			_, e := whole.ParseZ(s)
			wantErr(t, "ParseZ "+strconv.Quote(s), e, want)
		}
	}
}

func TestParseZLimit(t *testing.T) {
	for _, s := range []string{digitText("", api.MaxDigits), digitText("-", api.MaxDigits), "1" + strings.Repeat("0", api.MaxDigits-1)} {
		a, e := whole.ParseZ(s)
		wantErr(t, "ParseZ of MaxDigits bytes", e, api.OK)
		wantText(t, "ParseZ of MaxDigits bytes", a.Text(), s)
	}
	for _, s := range []string{digitText("", api.MaxDigits+1), digitText("-", api.MaxDigits+1), strings.Repeat("0", api.MaxDigits+1), strings.Repeat("x", api.MaxDigits+1), strings.Repeat("é", api.MaxDigits/2) + "1", digitText("", 5000)} {
		a, e := whole.ParseZ(s)
		wantErr(t, "ParseZ of more than MaxDigits bytes", e, api.ErrLimit)
		wantText(t, "ParseZ of more than MaxDigits bytes", a.Text(), "0")
	}
}

func TestInt64(t *testing.T) {
	for s, want := range map[string]bool{
		"9223372036854775807": true, "9223372036854775808": false, "-9223372036854775808": true, "-9223372036854775809": false,
		"18446744073709551615": false, "18446744073709551616": false, "18446744073709551621": false, "-18446744073709551616": false, "-18446744073709551621": false,
		"340282366920938463463374607431768211456": false, "-340282366920938463463374607431768211457": false, "0": true, "-1": true,
	} {
		n, ok := number(t, s).Int64()
		var v int64
		if want {
			v, _ = strconv.ParseInt(s, 10, 64)
		}
		if n != v || ok != want {
			t.Errorf("Int64 of %s: %d, %v", s, n, ok)
		}
	}
}

func TestIntegerText(t *testing.T) {
	for _, n := range edges() {
		wantText(t, "Text", exact(t, n).Text(), n.String())
	}
	// Far beyond what ParseZ reads, and with many zeros inside.
	n, a := big.NewInt(10), whole.Int(10)
	for range 12 {
		n.Mul(n, n)
		a = a.Mul(a)
		n.Add(n, big.NewInt(-1))
		a = a.Sub(whole.Int(1))
		wantText(t, "Text", a.Text(), n.String())
		n.Add(n, big.NewInt(1))
		a = a.Add(whole.Int(1))
		wantText(t, "Text", a.Neg().Text(), "-"+n.String())
	}
}

// P1.2

func TestIntegerOperations(t *testing.T) {
	eachPair(t, func(m, n *big.Int) {
		a, b := exact(t, m), exact(t, n)
		what := m.String() + " and " + n.String()
		wantText(t, "Add of "+what, a.Add(b).Text(), new(big.Int).Add(m, n).String())
		wantText(t, "Sub of "+what, a.Sub(b).Text(), new(big.Int).Sub(m, n).String())
		wantText(t, "Mul of "+what, a.Mul(b).Text(), new(big.Int).Mul(m, n).String())
		wantInt(t, "Cmp of "+what, a.Cmp(b), m.Cmp(n))
		wantText(t, "a", a.Text(), m.String())
		wantText(t, "b", b.Text(), n.String())
	})
}

func TestIntegerSigns(t *testing.T) {
	for _, n := range edges() {
		a, what := exact(t, n), n.String()
		wantText(t, "Neg of "+what, a.Neg().Text(), new(big.Int).Neg(n).String())
		wantText(t, "Abs of "+what, a.Abs().Text(), new(big.Int).Abs(n).String())
		wantInt(t, "Sign of "+what, a.Sign(), n.Sign())
		wantInt(t, "Cmp of "+what+" and itself", a.Cmp(exact(t, n)), 0)
		wantText(t, "Sub of "+what+" and itself", a.Sub(a).Text(), "0")
		wantInt(t, "Sign of a - a", a.Sub(a).Sign(), 0)
		wantInt(t, "Cmp of a - a and 0", a.Sub(a).Cmp(whole.Int(0)), 0)
		wantInt(t, "Sign of a 0", a.Mul(whole.Int(0)).Sign(), 0)
	}
}

// P1.3

func TestQuotient(t *testing.T) {
	for _, c := range [][4]string{
		{"-7", "2", "-4", "1"}, {"7", "-2", "-3", "1"}, {"-7", "-2", "4", "1"}, {"7", "2", "3", "1"},
		{"-6", "2", "-3", "0"}, {"6", "-2", "-3", "0"}, {"0", "-5", "0", "0"}, {"-1", "5", "-1", "4"}, {"1", "-5", "0", "1"}, {"-1", "-5", "1", "4"},
		{"-9223372036854775808", "-1", "9223372036854775808", "0"}, {"-9223372036854775808", "1", "-9223372036854775808", "0"},
		{"-1", "-9223372036854775808", "1", "9223372036854775807"}, {"-9223372036854775808", "9223372036854775807", "-2", "9223372036854775806"},
		{"-18446744073709551615", "-18446744073709551616", "1", "1"}, {"18446744073709551615", "18446744073709551616", "0", "18446744073709551615"},
		{"-36893488147419103232", "18446744073709551616", "-2", "0"}, {"-18446744073709551616", "18446744073709551615", "-2", "18446744073709551614"},
		{"-340282366920938463463374607431768211455", "1", "-340282366920938463463374607431768211455", "0"},
	} {
		q, r, e := number(t, c[0]).Quotient(number(t, c[1]))
		wantErr(t, "Quotient", e, api.OK)
		wantText(t, "quotient of "+c[0]+" by "+c[1], q.Text(), c[2])
		wantText(t, "rest of "+c[0]+" by "+c[1], r.Text(), c[3])
	}
}

func TestQuotientOfAll(t *testing.T) {
	eachPair(t, func(m, n *big.Int) {
		a, d := exact(t, m), exact(t, n)
		q, r, e := a.Quotient(d)
		if n.Sign() == 0 {
			wantErr(t, "Quotient by 0", e, api.ErrZero)
			wantText(t, "quotient by 0", q.Text(), "0")
			wantText(t, "rest by 0", r.Text(), "0")
			return
		}
		wantErr(t, "Quotient", e, api.OK)
		// The rest of math/big's DivMod is not negative, either.
		wantQ, wantR := new(big.Int).DivMod(m, n, new(big.Int))
		wantText(t, "quotient of "+m.String()+" by "+n.String(), q.Text(), wantQ.String())
		wantText(t, "rest of "+m.String()+" by "+n.String(), r.Text(), wantR.String())
	})
}

// Next to a multiple of the divisor a quotient is easy to get wrong by one.
func TestQuotientNearMultiples(t *testing.T) {
	r := rand.New(rand.NewSource(2))
	for i := 0; i < 3000 && !t.Failed(); i++ {
		n := strange(r, 300)
		m := new(big.Int).Mul(n, strange(r, 300))
		m.Add(m, big.NewInt(int64(r.Intn(3)-1)))
		q, rest, e := exact(t, m).Quotient(exact(t, n))
		wantErr(t, "Quotient", e, api.OK)
		wantQ, wantR := new(big.Int).DivMod(m, n, new(big.Int))
		wantText(t, "quotient", q.Text(), wantQ.String())
		wantText(t, "rest", rest.Text(), wantR.String())
	}
}

func TestGcd(t *testing.T) {
	for _, c := range [][3]string{
		{"-12", "18", "6"}, {"0", "-5", "5"}, {"-5", "0", "5"}, {"0", "0", "0"}, {"1071", "-462", "21"}, {"17", "5", "1"}, {"-4", "-4", "4"},
		{"-9223372036854775808", "-9223372036854775808", "9223372036854775808"}, {"-9223372036854775808", "0", "9223372036854775808"},
		{"-340282366920938463463374607431768211456", "18446744073709551616", "18446744073709551616"},
		{"340282366920938463463374607431768211456", "-6", "2"}, {"0", "-340282366920938463463374607431768211456", "340282366920938463463374607431768211456"},
	} {
		wantText(t, "Gcd of "+c[0]+" and "+c[1], whole.Gcd(number(t, c[0]), number(t, c[1])).Text(), c[2])
	}
	eachPair(t, func(m, n *big.Int) {
		want := new(big.Int).GCD(nil, nil, new(big.Int).Abs(m), new(big.Int).Abs(n)).String()
		wantText(t, "Gcd of "+m.String()+" and "+n.String(), whole.Gcd(exact(t, m), exact(t, n)).Text(), want)
	})
}

func TestGcdOfMultiples(t *testing.T) {
	r := rand.New(rand.NewSource(3))
	for i := 0; i < 1500 && !t.Failed(); i++ {
		g := strange(r, 400)
		m, n := new(big.Int).Mul(g, strange(r, 400)), new(big.Int).Mul(g, strange(r, 400))
		want := new(big.Int).GCD(nil, nil, new(big.Int).Abs(m), new(big.Int).Abs(n)).String()
		wantText(t, "Gcd", whole.Gcd(exact(t, m), exact(t, n)).Text(), want)
	}
}

func TestGcdOfFibonacciNumbers(t *testing.T) {
	// Euclid's longest way: all its quotients are 1.
	a, b := whole.Int(0), whole.Int(1)
	for range 3000 {
		a, b = b, a.Add(b)
	}
	wantText(t, "Gcd", whole.Gcd(a, b).Text(), "1")
	wantText(t, "Gcd of multiples", whole.Gcd(a.Mul(whole.Int(-6)), b.Mul(whole.Int(6))).Text(), "6")
}

// P1.9

func TestRing(t *testing.T) {
	r := rand.New(rand.NewSource(4))
	same := func(law string, a, b whole.Z) {
		t.Helper()
		if a.Cmp(b) != 0 || a.Text() != b.Text() {
			t.Errorf("%s: %.60s, %.60s", law, a.Text(), b.Text())
		}
	}
	l := edges()
	for i := range 1500 {
		a, b, c := exact(t, strange(r, 300)), exact(t, strange(r, 300)), exact(t, l[i%len(l)])
		same("a + b = b + a", a.Add(b), b.Add(a))
		same("a b = b a", a.Mul(c), c.Mul(a))
		same("(a + b) + c = a + (b + c)", a.Add(b).Add(c), a.Add(b.Add(c)))
		same("(a b) c = a (b c)", a.Mul(b).Mul(c), a.Mul(b.Mul(c)))
		same("a (b + c) = a b + a c", a.Mul(b.Add(c)), a.Mul(b).Add(a.Mul(c)))
		same("a - a = 0", c.Sub(c), whole.Z{})
		same("(a - b) (a + b) = a a - b b", a.Sub(c).Mul(a.Add(c)), a.Mul(a).Sub(c.Mul(c)))
		same("a - b = a + -b", a.Sub(b), a.Add(b.Neg()))
	}
}

// P1.10

func TestQuotientLaws(t *testing.T) {
	eachPair(t, func(m, n *big.Int) {
		if n.Sign() == 0 {
			return
		}
		a, d := exact(t, m), exact(t, n)
		q, r, _ := a.Quotient(d)
		if q.Mul(d).Add(r).Cmp(a) != 0 || r.Sign() < 0 || r.Cmp(d.Abs()) >= 0 {
			t.Errorf("quotient of %.60s by %.60s: %.60s, rest %.60s", m, n, q.Text(), r.Text())
		}
	})
}

// combination returns the greatest common divisor of a and b as Euclid finds
// it, and s and t for which it is s a + t b.
func combination(a, b whole.Z) (g, s, t whole.Z) {
	if b.Sign() == 0 {
		return a.Abs(), whole.Int(int64(a.Sign())), whole.Z{}
	}
	q, r, _ := a.Quotient(b)
	g, s, t = combination(b, r)
	return g, t, s.Sub(q.Mul(t))
}

func TestGcdLaws(t *testing.T) {
	r := rand.New(rand.NewSource(5))
	l := edges()
	for i := range 1500 {
		a, b := exact(t, l[i%len(l)]), exact(t, strange(r, 300))
		if i%2 == 0 {
			a = exact(t, strange(r, 300))
		}
		g := whole.Gcd(a, b)
		_, restA, _ := a.Quotient(g)
		_, restB, _ := b.Quotient(g)
		if g.Sign() <= 0 || restA.Sign() != 0 || restB.Sign() != 0 {
			t.Errorf("Gcd does not divide: %.60s", g.Text())
		}
		d, s, u := combination(a, b)
		if d.Cmp(g) != 0 || s.Mul(a).Add(u.Mul(b)).Cmp(g) != 0 {
			t.Errorf("Gcd is no combination: %.60s", g.Text())
		}
		k := exact(t, strange(r, 200))
		if whole.Gcd(a.Add(k.Mul(b)), b).Cmp(g) != 0 || whole.Gcd(b, a).Cmp(g) != 0 || whole.Gcd(a, b.Sub(k.Mul(a))).Cmp(g) != 0 {
			t.Errorf("Gcd is changed by a multiple: %.60s", g.Text())
		}
	}
}

// P1.12

func TestIntegerTexts(t *testing.T) {
	l := edges()
	for _, m := range l {
		a := exact(t, m)
		back, e := whole.ParseZ(a.Text())
		if e != api.OK || back.Cmp(a) != 0 {
			t.Errorf("ParseZ of Text of %s: %s, %v", m, back.Text(), e)
		}
		for _, n := range l {
			b := exact(t, n)
			if (a.Cmp(b) == 0) != (a.Text() == b.Text()) {
				t.Errorf("texts of %s and %s", m, n)
			}
		}
	}
}

// P1 and the rules

func TestZeroInteger(t *testing.T) {
	var a whole.Z
	wantText(t, "the zero Z", a.Text(), "0")
	wantText(t, "0 + 5", a.Add(whole.Int(5)).Text(), "5")
	wantText(t, "0 - 5", a.Sub(whole.Int(5)).Text(), "-5")
	wantText(t, "0 5", a.Mul(whole.Int(5)).Text(), "0")
	wantText(t, "-0", a.Neg().Text(), "0")
	wantText(t, "abs 0", a.Abs().Text(), "0")
	wantInt(t, "Sign", a.Sign(), 0)
	wantInt(t, "Cmp with Int(0)", a.Cmp(whole.Int(0)), 0)
	wantInt(t, "Cmp with -1", a.Cmp(whole.Int(-1)), 1)
	if n, ok := a.Int64(); n != 0 || !ok {
		t.Error("Int64 of the zero Z:", n, ok)
	}
	q, r, e := a.Quotient(whole.Int(-3))
	if e != api.OK || q.Sign() != 0 || r.Sign() != 0 {
		t.Error("Quotient of the zero Z:", q.Text(), r.Text(), e)
	}
	if _, _, e := whole.Int(3).Quotient(a); e != api.ErrZero {
		t.Error("Quotient by the zero Z:", e)
	}
	wantText(t, "Gcd", whole.Gcd(a, a).Text(), "0")
}

func TestHugeIntegers(t *testing.T) {
	// A few thousand words: beyond any text, and slow only if something is badly slow.
	a, b := whole.Int(3), whole.Int(7)
	for range 15 {
		a, b = a.Mul(a), b.Mul(b)
	}
	q, r, e := b.Sub(whole.Int(1)).Quotient(a)
	if e != api.OK || q.Mul(a).Add(r).Cmp(b.Sub(whole.Int(1))) != 0 || r.Cmp(a) >= 0 || r.Sign() < 0 {
		t.Error("Quotient of huge integers")
	}
	wantText(t, "Gcd of huge integers", whole.Gcd(a, b).Text(), "1")
	want := new(big.Int).Exp(big.NewInt(3), big.NewInt(1<<15), nil)
	wantText(t, "Text of a huge integer", a.Text(), want.String())
}
