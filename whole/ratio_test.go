package whole_test

import (
	"math"
	"math/big"
	"math/rand"
	"strconv"
	"strings"
	"testing"

	"copestone/api"
	"copestone/whole"
)

// P1.4

func TestOfAndWhole(t *testing.T) {
	for _, n := range []int64{0, 1, -1, 42, math.MaxInt64, math.MinInt64} {
		wantText(t, "Of", whole.Of(n).Text(), strconv.FormatInt(n, 10))
		wantText(t, "Den of Of", whole.Of(n).Den().Text(), "1")
	}
	for _, n := range edges() {
		a := whole.Whole(exact(t, n))
		wantText(t, "Whole", a.Text(), n.String())
		wantText(t, "Num of Whole", a.Num().Text(), n.String())
		wantText(t, "Den of Whole", a.Den().Text(), "1")
	}
}

func TestRatio(t *testing.T) {
	least, most := int64(math.MinInt64), int64(math.MaxInt64)
	for _, c := range []struct {
		n, d int64
		want string
	}{
		{6, 4, "3/2"}, {-6, 4, "-3/2"}, {6, -4, "-3/2"}, {-6, -4, "3/2"}, {0, 7, "0"}, {0, -7, "0"}, {7, 1, "7"}, {7, -1, "-7"}, {14, 7, "2"}, {-14, 7, "-2"},
		{least, least, "1"}, {least, -1, "9223372036854775808"}, {least, 1, "-9223372036854775808"}, {1, least, "-1/9223372036854775808"}, {-1, least, "1/9223372036854775808"},
		{most, most, "1"}, {most, -most, "-1"}, {least, most, "-9223372036854775808/9223372036854775807"}, {most, least, "-9223372036854775807/9223372036854775808"}, {0, least, "0"}, {least, 2, "-4611686018427387904"}, {2, least, "-1/4611686018427387904"},
	} {
		a, e := whole.Ratio(c.n, c.d)
		wantErr(t, "Ratio", e, api.OK)
		wantText(t, "Ratio", a.Text(), c.want)
	}
	for _, n := range []int64{0, 1, -1, least, most} {
		a, e := whole.Ratio(n, 0)
		wantErr(t, "Ratio over 0", e, api.ErrZero)
		wantText(t, "Ratio over 0", a.Text(), "0")
		wantText(t, "Ratio over 0: Den", a.Den().Text(), "1")
	}
}

func TestOfZ(t *testing.T) {
	eachPair(t, func(m, n *big.Int) {
		a, e := whole.OfZ(exact(t, m), exact(t, n))
		if n.Sign() == 0 {
			wantErr(t, "OfZ over 0", e, api.ErrZero)
			wantText(t, "OfZ over 0", a.Text(), "0")
			return
		}
		wantErr(t, "OfZ", e, api.OK)
		want := new(big.Rat).SetFrac(m, n)
		wantText(t, "OfZ", a.Text(), want.RatString())
		wantText(t, "Num", a.Num().Text(), want.Num().String())
		wantText(t, "Den", a.Den().Text(), want.Denom().String())
	})
}

func TestParse(t *testing.T) {
	for s, want := range map[string]string{
		"6/4": "3/2", "-6/4": "-3/2", "0": "0", "-0": "0", "0/5": "0", "-0/5": "0", "5/1": "5", "5": "5", "-5": "-5", "10/5": "2", "3/10": "3/10", "-1/3": "-1/3",
		"18446744073709551616/36893488147419103232": "1/2", "1/18446744073709551616": "1/18446744073709551616", "-18446744073709551616/3": "-18446744073709551616/3",
		"100000000000000000000000000000000000000/10000000000000000000": "10000000000000000000",
	} {
		a, e := whole.Parse(s)
		wantErr(t, "Parse "+s, e, api.OK)
		wantText(t, "Parse "+s, a.Text(), want)
	}
}

func TestParseErrors(t *testing.T) {
	for _, s := range []string{"", "-", "/", "1/", "/2", "-/2", "1//2", "1/2/3", "1/-2", "1/+2", "+1/2", "--1/2", "1/-0", "01/2", "1/02", "1/00", "00/1", "-01/2", "007", "1 /2", "1/ 2", " 1/2", "1/2 ", "1/2\n", "1.5", "a/b", "1/b", "a/1", "x/0", "01/0", "/0", "-/0", "1/0/0", "1÷2", "１/2", "1/٢", strings.Repeat("/", 1000)} {
		a, e := whole.Parse(s)
		wantErr(t, "Parse "+strconv.Quote(s), e, api.ErrForm)
		wantText(t, "Parse "+strconv.Quote(s), a.Text(), "0")
	}
	for _, s := range []string{"1/0", "0/0", "-0/0", "-7/0", "18446744073709551616/0"} {
		a, e := whole.Parse(s)
		wantErr(t, "Parse "+s, e, api.ErrZero)
		wantText(t, "Parse "+s, a.Text(), "0")
		wantText(t, "Den of Parse "+s, a.Den().Text(), "1")
	}
}

func TestParseLimit(t *testing.T) {
	for _, s := range []string{digitText("", api.MaxDigits), digitText("-", api.MaxDigits), digitText("1/", api.MaxDigits), digitText("-1/", api.MaxDigits), digitText("", api.MaxDigits-2) + "/1", digitText("", 500) + "/" + digitText("8", 499)} {
		want, _ := new(big.Rat).SetString(s)
		a, e := whole.Parse(s)
		wantErr(t, "Parse of MaxDigits bytes", e, api.OK)
		wantText(t, "Parse of MaxDigits bytes", a.Text(), want.RatString())
	}
	for _, s := range []string{digitText("", api.MaxDigits+1), digitText("1/", api.MaxDigits+1), digitText("", 500) + "/" + digitText("", 500), "1/" + strings.Repeat("0", api.MaxDigits-1), digitText("", api.MaxDigits-1) + "/0", strings.Repeat("x", api.MaxDigits+1)} {
		a, e := whole.Parse(s)
		wantErr(t, "Parse of more than MaxDigits bytes", e, api.ErrLimit)
		wantText(t, "Parse of more than MaxDigits bytes", a.Text(), "0")
	}
}

// P1.5

func TestFloorAndCeil(t *testing.T) {
	for s, want := range map[string][2]string{
		"-7/2": {"-4", "-3"}, "7/2": {"3", "4"}, "0": {"0", "0"}, "5": {"5", "5"}, "-5": {"-5", "-5"}, "1/3": {"0", "1"}, "-1/3": {"-1", "0"},
		"-18446744073709551617/18446744073709551616": {"-2", "-1"}, "18446744073709551617/18446744073709551616": {"1", "2"}, "-1/18446744073709551616": {"-1", "0"},
		"18446744073709551616": {"18446744073709551616", "18446744073709551616"}, "-36893488147419103231/2": {"-18446744073709551616", "-18446744073709551615"},
	} {
		wantText(t, "Floor of "+s, ratio(t, s).Floor().Text(), want[0])
		wantText(t, "Ceil of "+s, ratio(t, s).Ceil().Text(), want[1])
	}
}

func TestNumAndDen(t *testing.T) {
	for s, want := range map[string][2]string{"6/4": {"3", "2"}, "-6/4": {"-3", "2"}, "0/9": {"0", "1"}, "-0": {"0", "1"}, "12": {"12", "1"}, "4/2": {"2", "1"}, "-1/18446744073709551616": {"-1", "18446744073709551616"}} {
		wantText(t, "Num of "+s, ratio(t, s).Num().Text(), want[0])
		wantText(t, "Den of "+s, ratio(t, s).Den().Text(), want[1])
	}
}

// P1.6

func TestRatioOperations(t *testing.T) {
	l := someRatios(rand.New(rand.NewSource(6)), 120)
	for _, m := range l {
		for _, n := range l {
			a, b := exactRatio(t, m), exactRatio(t, n)
			what := " of " + m.RatString() + " and " + n.RatString()
			wantText(t, "Add"+what, a.Add(b).Text(), new(big.Rat).Add(m, n).RatString())
			wantText(t, "Sub"+what, a.Sub(b).Text(), new(big.Rat).Sub(m, n).RatString())
			wantText(t, "Mul"+what, a.Mul(b).Text(), new(big.Rat).Mul(m, n).RatString())
			wantInt(t, "Cmp"+what, a.Cmp(b), m.Cmp(n))
			q, e := a.Div(b)
			if n.Sign() == 0 {
				wantErr(t, "Div"+what, e, api.ErrZero)
				wantText(t, "Div"+what, q.Text(), "0")
				continue
			}
			wantErr(t, "Div"+what, e, api.OK)
			wantText(t, "Div"+what, q.Text(), new(big.Rat).Quo(m, n).RatString())
			wantText(t, "a", a.Text(), m.RatString())
			wantText(t, "b", b.Text(), n.RatString())
		}
	}
}

func TestRatioSigns(t *testing.T) {
	for _, m := range someRatios(rand.New(rand.NewSource(7)), 200) {
		a := exactRatio(t, m)
		wantText(t, "Neg", a.Neg().Text(), new(big.Rat).Neg(m).RatString())
		wantText(t, "Abs", a.Abs().Text(), new(big.Rat).Abs(m).RatString())
		wantInt(t, "Sign", a.Sign(), m.Sign())
		wantInt(t, "Cmp with itself", a.Cmp(exactRatio(t, m)), 0)
		wantText(t, "a - a", a.Sub(a).Text(), "0")
		wantText(t, "Den of a - a", a.Sub(a).Den().Text(), "1")
	}
}

// P1.7

func TestSumMinMax(t *testing.T) {
	for _, c := range []struct {
		l             []string
		sum, min, max string
	}{
		{nil, "0", "0", "0"},
		{[]string{"5/7"}, "5/7", "5/7", "5/7"},
		{[]string{"-5/7"}, "-5/7", "-5/7", "-5/7"},
		{[]string{"1/2", "1/3", "1/6"}, "1", "1/6", "1/2"},
		{[]string{"-1/2", "-1/3", "-1/6"}, "-1", "-1/2", "-1/6"},
		{[]string{"3", "-3", "2", "-2"}, "0", "-3", "3"},
		{[]string{"1/3", "1/3"}, "2/3", "1/3", "1/3"},
		{[]string{"0", "0", "0"}, "0", "0", "0"},
		{[]string{"18446744073709551616", "1/18446744073709551616", "-18446744073709551616"}, "1/18446744073709551616", "-18446744073709551616", "18446744073709551616"},
	} {
		l := ratios(t, c.l...)
		wantText(t, "Sum", whole.Sum(l...).Text(), c.sum)
		wantText(t, "Min", whole.Min(l...).Text(), c.min)
		wantText(t, "Max", whole.Max(l...).Text(), c.max)
		for i, s := range c.l {
			wantText(t, "the list", l[i].Text(), s)
		}
	}
	wantText(t, "Sum of an empty list", whole.Sum([]whole.R{}...).Text(), "0")
	wantText(t, "Min of an empty list", whole.Min([]whole.R{}...).Text(), "0")
	wantText(t, "Max of an empty list", whole.Max([]whole.R{}...).Text(), "0")
}

func TestSumMinMaxOfMany(t *testing.T) {
	r := rand.New(rand.NewSource(8))
	for n := range 25 {
		l := someRatios(r, 37)
		r.Shuffle(len(l), func(i, j int) { l[i], l[j] = l[j], l[i] })
		l = l[:n+1]
		var all []whole.R
		sum, least, most := new(big.Rat), l[0], l[0]
		for _, m := range l {
			all = append(all, exactRatio(t, m))
			sum.Add(sum, m)
			if m.Cmp(least) < 0 {
				least = m
			}
			if m.Cmp(most) > 0 {
				most = m
			}
		}
		wantText(t, "Sum", whole.Sum(all...).Text(), sum.RatString())
		wantText(t, "Min", whole.Min(all...).Text(), least.RatString())
		wantText(t, "Max", whole.Max(all...).Text(), most.RatString())
	}
}

// P1.11

func TestField(t *testing.T) {
	r := rand.New(rand.NewSource(9))
	l := someRatios(r, 60)
	same := func(law string, a, b whole.R) {
		t.Helper()
		if a.Cmp(b) != 0 || a.Text() != b.Text() {
			t.Errorf("%s: %.60s, %.60s", law, a.Text(), b.Text())
		}
	}
	one := whole.Of(1)
	for range 2000 {
		a, b, c := exactRatio(t, l[r.Intn(len(l))]), exactRatio(t, l[r.Intn(len(l))]), exactRatio(t, l[r.Intn(len(l))])
		same("a + b = b + a", a.Add(b), b.Add(a))
		same("a b = b a", a.Mul(b), b.Mul(a))
		same("(a + b) + c = a + (b + c)", a.Add(b).Add(c), a.Add(b.Add(c)))
		same("(a b) c = a (b c)", a.Mul(b).Mul(c), a.Mul(b.Mul(c)))
		same("a (b + c) = a b + a c", a.Mul(b.Add(c)), a.Mul(b).Add(a.Mul(c)))
		same("a + 0 = a", a.Add(whole.R{}), a)
		same("a 1 = a", a.Mul(one), a)
		same("a - b + b = a", a.Sub(b).Add(b), a)
		if b.Sign() != 0 {
			q, _ := a.Div(b)
			same("a/b b = a", q.Mul(b), a)
			inverse, _ := one.Div(b)
			same("b 1/b = 1", b.Mul(inverse), one)
		}
		checkOrder(t, a, b, c)
		checkLowest(t, a.Add(b), a.Sub(b), a.Mul(b), a.Neg(), a.Abs())
	}
}

func checkOrder(t *testing.T, a, b, c whole.R) {
	t.Helper()
	if a.Cmp(b) != -b.Cmp(a) || a.Cmp(b) != a.Sub(b).Sign() || a.Cmp(b) != a.Add(c).Cmp(b.Add(c)) {
		t.Errorf("order of %.60s, %.60s", a.Text(), b.Text())
	}
	if a.Cmp(b)*c.Sign() != a.Mul(c).Cmp(b.Mul(c)) {
		t.Errorf("order of multiples of %.60s, %.60s", a.Text(), b.Text())
	}
	if a.Cmp(b) <= 0 && b.Cmp(c) <= 0 && a.Cmp(c) > 0 {
		t.Errorf("order is not transitive")
	}
}

func checkLowest(t *testing.T, l ...whole.R) {
	t.Helper()
	for _, a := range l {
		if a.Den().Sign() <= 0 || whole.Gcd(a.Num(), a.Den()).Cmp(whole.Int(1)) != 0 {
			t.Errorf("not in lowest terms: %.60s/%.60s", a.Num().Text(), a.Den().Text())
		}
	}
}

// P1.12

func TestRatioTexts(t *testing.T) {
	l := someRatios(rand.New(rand.NewSource(10)), 120)
	for _, m := range l {
		a := exactRatio(t, m)
		back, e := whole.Parse(a.Text())
		if e != api.OK || back.Cmp(a) != 0 {
			t.Errorf("Parse of Text of %.60s: %.60s, %v", m.RatString(), back.Text(), e)
		}
		for _, n := range l {
			b := exactRatio(t, n)
			if (a.Cmp(b) == 0) != (a.Text() == b.Text()) {
				t.Errorf("texts of %.60s and %.60s", a.Text(), b.Text())
			}
		}
	}
}

// P1.14

func TestFloorLaws(t *testing.T) {
	one := whole.Int(1)
	for _, m := range someRatios(rand.New(rand.NewSource(11)), 400) {
		a := exactRatio(t, m)
		f, c := a.Floor(), a.Ceil()
		if whole.Whole(f).Cmp(a) > 0 || whole.Whole(f.Add(one)).Cmp(a) <= 0 {
			t.Errorf("Floor of %.60s: %.60s", a.Text(), f.Text())
		}
		if whole.Whole(c).Cmp(a) < 0 || whole.Whole(c.Sub(one)).Cmp(a) >= 0 || c.Cmp(a.Neg().Floor().Neg()) != 0 {
			t.Errorf("Ceil of %.60s: %.60s", a.Text(), c.Text())
		}
	}
}

// P1 and the rules

func TestZeroRatio(t *testing.T) {
	var a whole.R
	wantText(t, "the zero R", a.Text(), "0")
	wantText(t, "Num", a.Num().Text(), "0")
	wantText(t, "Den", a.Den().Text(), "1")
	wantText(t, "Floor", a.Floor().Text(), "0")
	wantText(t, "Ceil", a.Ceil().Text(), "0")
	wantText(t, "Neg", a.Neg().Text(), "0")
	wantText(t, "Abs", a.Abs().Text(), "0")
	wantText(t, "0 + 2/3", a.Add(ratio(t, "2/3")).Text(), "2/3")
	wantText(t, "0 - 2/3", a.Sub(ratio(t, "2/3")).Text(), "-2/3")
	wantText(t, "0 2/3", a.Mul(ratio(t, "2/3")).Text(), "0")
	wantInt(t, "Sign", a.Sign(), 0)
	wantInt(t, "Cmp with Of(0)", a.Cmp(whole.Of(0)), 0)
	wantInt(t, "Cmp with 1/2", a.Cmp(ratio(t, "1/2")), -1)
	q, e := a.Div(ratio(t, "-2/3"))
	wantErr(t, "0 over -2/3", e, api.OK)
	wantText(t, "0 over -2/3", q.Text(), "0")
	if _, e := a.Div(a); e != api.ErrZero {
		t.Error("0 over 0:", e)
	}
}

func TestLongSums(t *testing.T) {
	// The harmonic numbers: their denominators grow far beyond any word.
	sum, want := whole.R{}, new(big.Rat)
	for i := int64(1); i <= 600; i++ {
		term, _ := whole.Ratio(1, i)
		sum = sum.Add(term)
		want.Add(want, big.NewRat(1, i))
	}
	wantText(t, "the sum of 1/i", sum.Text(), want.RatString())
}
