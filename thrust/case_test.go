package thrust_test

import (
	"fmt"
	"math/rand"
	"testing"

	"copestone/api"
	"copestone/place"
	"copestone/thrust"
	"copestone/whole"
)

// P4.1: Check, Contacts.

func TestCheck(t *testing.T) {
	full := front(many(api.MaxWall)...)
	full.Wall.Ground = path(-api.MaxFar, 0, api.MaxFar, 0)
	for what, c := range map[string]cased{
		"the chapter's":           three(),
		"no stones":               front(),
		"as many as there may be": full,
		"no friction":             {Wall: three().Wall, Skin: place.Front},
		"the greatest friction":   {Wall: three().Wall, Skin: place.Back, Pin: api.MaxPin, Low: n(10), High: n(10)},
		"a load on a through stone": {Wall: on(flat(), put(box("a", 9, 9), 0, 0, 0, place.Through)), Skin: place.Back,
			Loads: []thrust.Load{{}}},
		"as many loads as there may be": loads(make([]thrust.Load, api.MaxLoads)).to(three()),
	} {
		wantErr(t, what, thrust.Check(c), api.OK)
	}
	for what, x := range badCases() {
		wantErr(t, what, thrust.Check(x.c), x.e)
	}
	for e, l := range badWalls() {
		for _, w := range l {
			wantErr(t, fmt.Sprint(w), thrust.Check(cased{Wall: w, Skin: place.Front}), e)
			wantErr(t, fmt.Sprint("a wrong case, too: ", w), thrust.Check(cased{Wall: w, Loads: make([]thrust.Load, 99)}), e)
		}
	}
}

func TestContacts(t *testing.T) {
	c := three()
	c.Wall.Stones = append(c.Wall.Stones, put(box("h", 400, 20), 0, 0, 160, place.Through), put(box("k", 400, 80), 0, 0, 0, place.Back),
		put(box("l", 300, 80), 0, 0, 80, place.Back))
	for _, x := range []struct {
		skin uint8
		i    int
		want string
	}{
		{place.Front, 0, "[-1 (0, 0) (200, 0) {1 0} {1 0}]"},
		{place.Front, 2, "[0 (100, 80) (200, 80) {1 0} {1 0}][1 (200, 80) (300, 80) {1 0} {1 0}]"},
		{place.Front, 3, "[2 (100, 160) (300, 160) {1 0} {1 0}]"},
		{place.Front, 4, ""},
		{place.Back, 0, ""},
		{place.Back, 2, ""},
		{place.Back, 3, "[5 (0, 160) (300, 160) {1 0} {1 0}]"},
		{place.Back, 5, "[4 (0, 80) (300, 80) {1 0} {1 0}]"},
		{place.Front, -1, ""},
		{place.Front, 6, ""},
	} {
		c.Skin = x.skin
		want(t, fmt.Sprint(x), bedsText(ok[[]place.Bed](t)(thrust.Contacts(c, x.i))), x.want)
	}
	for _, i := range far {
		want(t, fmt.Sprint(i), len(ok[[]place.Bed](t)(thrust.Contacts(c, i))), 0)
	}
}

func bedsText(l []place.Bed) string {
	text := ""
	for _, b := range l {
		text += fmt.Sprint([]any{b.By, b.From.Text(), b.To.Text(), b.FromWay, b.ToWay})
	}
	return text
}

// Beds over pins, on stones whose tops are high above or far below what is near.
func TestContactsMany(t *testing.T) {
	found := 0
	randomCases(t, 51, 800, func(_ *rand.Rand, c cased) {
		for i := range c.Wall.Stones {
			var wanted []place.Bed
			if isIn(c, i) {
				wanted = bedsOf(c, i)
			}
			var got []place.Bed
			wantKept(t, "Contacts", c, func() { got = ok[[]place.Bed](t)(thrust.Contacts(c, i)) })
			want(t, fmt.Sprint(caseText(c), i), bedsText(got), bedsText(wanted))
			found += len(got)
		}
	})
	if found < 3000 {
		t.Errorf("%d beds", found)
	}
}

// P1: the errors of a case come before all others, and with an error there is no
// other result.
func TestInvalidCases(t *testing.T) {
	for e, l := range badWalls() {
		for _, w := range l {
			wantError(t, fmt.Sprint(w), cased{Wall: w, Skin: place.Front}, e)
		}
	}
	for what, x := range badCases() {
		wantError(t, what, x.c, x.e)
	}
}

func wantError(t *testing.T, what string, c cased, e api.Errno) {
	t.Helper()
	beds, got := thrust.Contacts(c, 0)
	want(t, what+": Contacts", []any{len(beds), got}, []any{0, e})
	beds, got = thrust.Contacts(c, -1)
	want(t, what+": Contacts of none", []any{len(beds), got}, []any{0, e})
	forces, reason, got := thrust.Stand(c)
	want(t, what+": Stand", []any{len(forces), reason, got}, []any{0, thrust.Reason{}, e})
	m, got := thrust.Fall(c)
	want(t, what+": Fall", []any{m, got}, []any{motion{}, e})
	spare, got := thrust.Spare(c)
	want(t, what+": Spare", []any{len(spare), got}, []any{0, e})
	rocks, got := thrust.Rocks(c, -1, n(-1))
	want(t, what+": Rocks", []any{rocks, got}, []any{false, e})
	good := three()
	good.Loads, good.High = nil, n(10)
	want(t, what+": Prove", thrust.Prove(c, stands(t, what, good)), false)
	want(t, what+": Prove nothing", thrust.Prove(c, nil), false)
	want(t, what+": ProveFall", thrust.ProveFall(c, motion{Stones: []int{0}, At: v(0, -1)}), false)
}

// Numbers of any size go through.
func TestLongNumbers(t *testing.T) {
	long, _ := whole.Parse("1" + fmt.Sprintf("%0300d", 0))
	tiny, _ := n(1).Div(long)
	for _, x := range []whole.R{long, tiny, long.Neg(), tiny.Neg()} {
		for _, z := range []whole.R{long, tiny, long.Neg(), tiny.Neg()} {
			c := load(2, x, z, z.Mul(tiny), x).to(three())
			l, reason, e := thrust.Stand(c)
			s := slowly(c)
			want(t, "forces", textOf(l), textOf(s.forces))
			want(t, "reason", reasonText(reason), reasonText(s.reason))
			want(t, "Prove", thrust.Prove(c, l), e == api.OK)
		}
	}
}
