package plan_test

import (
	"fmt"
	"math/rand"
	"slices"
	"strings"
	"testing"

	"copestone/api"
	"copestone/plan"
)

// P6.2: Print.

func TestPrint(t *testing.T) {
	want(t, "nothing", ok[string](t)(plan.Print(drawing{})), "")
	want(t, "the example", ok[string](t)(plan.Print(example())), daleText+northText)
	p := drawing{
		Sheets: []sheet{
			dale(func(s *sheet) { s.Cope, s.Tall, s.Short, s.Thick, s.Every, s.At = plan.None, 0, 0, 0, 0, 0 }),
			coped(plan.Flat, [3]int{1, 0, 2}), coped(plan.Upright, [3]int{3, 0, 4}),
		},
		Walls: []wall{
			north(100000, gap(0, 7), opening{plan.Stile, 10, 8, 1190, 10}), {"s", "u", 1, nil},
			{"e", "f", 90, []opening{{plan.Lunky, 10, 8, 0, 10}, smoot(1, 2, 3, 4)}},
		},
	}
	p.Sheets[1].Name, p.Sheets[2].Name = "f", "u"
	p.Sheets[1].Heights = []int{1000}
	middle := "least 60 lap 60 run 2 through 900 500 footing 200 100 cope "
	want(t, "all kinds", ok[string](t)(plan.Print(p)),
		"sheet dale base 700 batter 100 height 1200 skin 250 heights 200 180 least 60 lap 60 run 2 through 0 0 footing 200 100 cope none 0 0 0 friction 500 700 rood 6000\n"+
			"sheet f base 700 batter 100 height 1200 skin 250 heights 1000 "+middle+"flat 1 0 2 friction 500 700 rood 6000\n"+
			"sheet u base 700 batter 100 height 1200 skin 250 heights 200 180 "+middle+"upright 3 0 4 friction 500 700 rood 6000\n"+
			"wall north dale 100000\nopen gate 0 7 0 1200\nopen stile 10 8 1190 10\nwall s u 1\nwall e f 90\nopen lunky 10 8 0 10\nopen smoot 1 2 3 4\n")
}

// Each number is at its place.
func TestPrintNumbers(t *testing.T) {
	s := sheet{"x", 21, 2, 3, 4, []int{5, 6, 7}, 8, 9, 10, 11, 12, 13, 14, plan.Buck, 15, 16, 17, 18, 19, 20}
	text := "sheet x base 21 batter 2 height 3 skin 4 heights 5 6 7 least 8 lap 9 run 10 through 11 12 footing 13 14 cope buck 15 16 17 friction 18 19 rood 20\n"
	want(t, "a sheet", ok[string](t)(plan.Print(of(s))), text)
	wantPlan(t, "a sheet", parsed(t, text), of(s))
}

// P6.2: Parse.

func TestParse(t *testing.T) {
	wantPlan(t, "nothing", parsed(t, ""), drawing{})
	wantPlan(t, "empty lines and remarks", parsed(t, "\n\n#\n#?\n# sheet\n\n#"), drawing{})
	wantPlan(t, "the example", parsed(t, daleText+northText), example())
	wantPlan(t, "without the last line feed", parsed(t, strings.TrimSuffix(daleText+northText, "\n")), example())
	wantPlan(t, "a sheet without a line feed", parsed(t, strings.TrimSuffix(daleText, "\n")), of(dale()))
	wantPlan(t, "lines between", parsed(t, "\n# a\n"+daleText+"\n\n"+strings.ReplaceAll(northText, "\n", "\n\n#\n")), example())
	other := strings.Replace(daleText, "dale", "0", 1)
	zero := dale(func(s *sheet) { s.Name = "0" })
	wantPlan(t, "a sheet between walls", parsed(t, daleText+"wall a dale 9\n"+other+"wall b 0 9\n"), drawing{[]sheet{dale(), zero}, []wall{{"a", "dale", 9, nil}, {"b", "0", 9, nil}}})
	wantPlan(t, "a sheet before an opening", parsed(t, daleText+"wall a dale 9\n"+other+"open gate 0 9 0 1200\n"), drawing{[]sheet{dale(), zero}, []wall{{"a", "dale", 9, []opening{gap(0, 9)}}}})
	wantPlan(t, "an opening of the last wall", parsed(t, daleText+"wall a dale 9\nwall b dale 9\nopen gate 0 9 0 1200\n"), of(dale(), wall{"a", "dale", 9, nil}, wall{"b", "dale", 9, []opening{gap(0, 9)}}))
	wantPlan(t, "words of the forms as names", parsed(t, strings.Replace(daleText, "dale", "sheet", 1)+"wall wall sheet 9\nwall open sheet 9\n"), of(dale(func(s *sheet) { s.Name = "sheet" }), wall{"wall", "sheet", 9, nil}, wall{"open", "sheet", 9, nil}))
	wantPlan(t, "the longest text", parsed(t, daleText+strings.Repeat("#\n", (api.MaxPlan-len(daleText))/2)+strings.Repeat("\n", (api.MaxPlan-len(daleText))%2)), of(dale()))
}

// changed is the line of the sheet dale with some words changed.
func changed(pairs ...string) string { return strings.NewReplacer(pairs...).Replace(daleText) }

func wantParseError(t *testing.T, text string, line int, e api.Errno) {
	t.Helper()
	p, gotLine, got := plan.Parse(text)
	want(t, shown(text), []any{gotLine, got}, []any{line, e})
	wantPlan(t, shown(text), p, drawing{})
}

func TestParseForm(t *testing.T) {
	for _, text := range []string{
		"?", " ", "\t", "\r", " #", "sheet", "wall", "open", "sheets", "Sheet", " " + daleText, daleText[1:], "sheet \n", "wall north\n", "wall north dale\n", "open smoot 1 2 3\n",
		changed("\n", " \n"), changed("\n", "\r\n"), changed("base", " base"), changed("dale ", "dale\t"), changed("sheet ", "sheet  "), changed("heights ", "heights  "), changed("200 180", "200  180"),
		changed("base", "basis"), changed("batter", "Batter"), changed("height ", "heights "), changed("skin", "skim"), changed("heights", "height"), changed("least", "lest"), changed("lap", ""), changed("run", "runs"),
		changed("through", "throughs"), changed("footing", "foot"), changed("cope ", ""), changed("friction", "fiction"), changed("rood 6000", "rood"), changed("rood", "road"), changed(" rood 6000", ""),
		changed("buck", "bucks"), changed("buck", ""), changed("buck ", ""), changed("buck", "3"), changed("buck", "Flat"), changed("buck", "smoot"), changed("buck", "none 0"),
		changed("700 batter", "07 batter"), changed("700 batter", "00 batter"), changed("700 batter", "+7 batter"), changed("700 batter", "-7 batter"), changed("700 batter", "-0 batter"), changed("700 batter", "7x batter"),
		changed("700 batter", "0x7 batter"), changed("700 batter", "7_0 batter"), changed("700 batter", "7.0 batter"), changed("700 batter", "٧ batter"), changed("700 batter", "1000000 batter"), changed("700 batter", "0000001 batter"),
		changed("700 batter", "99999999999999999999 batter"), changed("700 batter", "batter"), changed("700 batter", "700 1 batter"), changed("900 500", "900"), changed("900 500", "900 500 1"), changed("200 100", "200"),
		changed("200 180 ", ""), changed("200 180", "200 0180"), changed("200 180", "200 -180"), changed("200 180", "200 1000000"), changed("200 180 least 60", "200 180"), changed("200 180 ", "200 180 x "),
		changed("300 200 150", "300 200"), changed("300 200 150", "300 200 150 1"), changed("500 700", "500"), changed("6000", "6000 1"), changed("6000", "06000"), changed("6000", "6000 "), changed("6000", "6000 rood 6000"),
		changed("dale", "Dale"), changed("dale", "dal-e"), changed("dale", ""), changed("dale ", ""), changed("dale", "12345678901234567"), changed("dale", "dalé"), changed("dale", "dale dale"),
	} {
		wantParseError(t, text, 1, api.ErrForm)
	}
	for _, line := range []string{
		"wall north dale", "wall north dale 1 1", "wall north dale 01", "wall north dale -1", "wall north dale x", "wall north dale 1000000", "wall north dale 1 ", "wall  north dale 1", "wall north  dale 1", "wall north 1",
		"wall North dale 1", "wall north Dale 1", "wall  dale 1", "wall north  1", "wall 12345678901234567 dale 1", "wall north 12345678901234567 1", "wall north dale\t1", "Wall north dale 1", "wall north dale 1\r", " wall north dale 1",
		"open smoot 1 1 1 1", "open gate 0 1 0 1200", "open x 1 1 1 1",
	} {
		wantParseError(t, daleText+line, 2, api.ErrForm)
	}
	for _, line := range []string{
		"open smoot 1 1 1", "open smoot 1 1 1 1 1", "open 1 1 1 1", "open  1 1 1 1", "open smoots 1 1 1 1", "open Smoot 1 1 1 1", "open flat 1 1 1 1", "open 1 1 1 1 1", "open smoot 01 1 1 1", "open smoot 1 -1 1 1", "open smoot 1 1 +1 1",
		"open smoot 1 1 1 1000000", "open smoot 1 1 1 x", "open smoot 1 1  1", "open smoot 1 1 1 1 ", "open smoot 1 1 1 ", "opens smoot 1 1 1 1", "open", "open smoot", "smoot 1 1 1 1",
	} {
		wantParseError(t, daleText+"wall north dale 3000\n"+line, 3, api.ErrForm)
	}
}

// Each error, and which one comes first.
func TestParseErrors(t *testing.T) {
	many := ok[string](t)(plan.Print(drawing{Sheets: sheets(20), Walls: walls(50, "s0")}))
	openings := ok[string](t)(plan.Print(one(3000, smoots(20)...)))
	bad := changed("700 batter", "0 batter")
	for _, c := range []struct {
		text string
		line int
		e    api.Errno
	}{
		{strings.Repeat("\n", api.MaxPlan+1), 0, api.ErrLimit},
		{strings.Repeat("?", api.MaxPlan+1), 0, api.ErrLimit},
		{strings.Repeat("?", api.MaxPlan), 1, api.ErrForm},
		{strings.Repeat("\n", api.MaxPlan-1) + "x", api.MaxPlan, api.ErrForm},
		{strings.Repeat(" ", api.MaxPlan), 1, api.ErrForm},
		{daleText + "#\n\n#\n" + "x\n?\n", 5, api.ErrForm},
		// Of a sheet.
		{bad, 1, api.ErrArg},
		{changed("700 batter", "999999 batter"), 1, api.ErrArg},
		{changed("700 batter", "240 batter"), 1, api.ErrArg},
		{changed("200 180", "200"+strings.Repeat(" 180", 12)), 1, api.ErrArg},
		{changed("200 180", strings.Repeat("1 ", 19000)+"1"), 1, api.ErrArg},
		{changed("200 180", "200 0"), 1, api.ErrArg},
		{changed("900 500", "0 500"), 1, api.ErrArg},
		{changed("buck", "flat"), 1, api.ErrArg},
		{changed("buck", "none"), 1, api.ErrArg},
		{changed("500 700", "700 500"), 1, api.ErrArg},
		{daleText + daleText, 2, api.ErrTwice},
		{daleText + "\n" + bad, 3, api.ErrTwice},
		{daleText + northText + daleText, 4, api.ErrTwice},
		{daleText + changed("6000", "x"), 2, api.ErrForm},
		{many + daleText, 71, api.ErrLimit},
		{many + "\n#\n" + bad, 73, api.ErrArg},
		{many + strings.Replace(bad, "dale", "s7", 1), 71, api.ErrTwice},
		{many + "sheet", 71, api.ErrForm},
		{"?\n" + daleText + daleText, 1, api.ErrForm},
		{daleText + daleText + "?\n", 2, api.ErrTwice},
		// Of a wall.
		{"wall north dale 1", 1, api.ErrName},
		{"wall north dale 1\n" + daleText, 1, api.ErrName},
		{daleText + "wall north dal 1", 2, api.ErrName},
		{daleText + "wall north north 1", 2, api.ErrName},
		{daleText + "wall north dales 0", 2, api.ErrName},
		{daleText + "wall north dale 0", 2, api.ErrArg},
		{daleText + "wall north dale 100001", 2, api.ErrArg},
		{daleText + northText + "wall north dale 1", 4, api.ErrTwice},
		{daleText + northText + "wall north x 1", 4, api.ErrTwice},
		{daleText + northText + "wall north dale 0", 4, api.ErrTwice},
		{many + "wall x s0 1", 71, api.ErrLimit},
		{many + "wall x s0 0", 71, api.ErrArg},
		{many + "wall x x 1", 71, api.ErrName},
		{many + "wall w7 x 1", 71, api.ErrTwice},
		{many + "wall w7 x", 71, api.ErrForm},
		// Of an opening.
		{openings + "open smoot 2000 1 0 1", 23, api.ErrArg},
		{many + "open smoot 50 1 0 1", 71, api.ErrArg},
		{daleText + northText + "open smoot 0 0 0 1", 4, api.ErrArg},
		{daleText + northText + "open smoot 3000 1 0 1", 4, api.ErrArg},
		{daleText + northText + "open smoot 999999 999999 999999 999999", 4, api.ErrArg},
		{daleText + northText + "open smoot 1249 9 219 9", 4, api.ErrArg},
		{daleText + northText + "open gate 0 1 0 1199", 4, api.ErrArg},
		{daleText + northText + "open stile 0 1 600 599", 4, api.ErrArg},
		{daleText + northText + "open gate 0 1 1 1199", 4, api.ErrArg},
		{daleText + northText + "open gate 0 1 1 1199 1", 4, api.ErrForm},
	} {
		wantParseError(t, c.text, c.line, c.e)
	}
	wantPlan(t, "as many as may be", parsed(t, many), drawing{Sheets: sheets(20), Walls: walls(50, "s0")})
	wantPlan(t, "as many openings as may be", parsed(t, openings), one(3000, smoots(20)...))
	wantPlan(t, "openings that touch", parsed(t, daleText+northText+"open smoot 1250 9 219 9\n"), one(3000, smoot(1000, 250, 0, 220), smoot(1250, 9, 219, 9)))
}

// P6.7: Parse of what Print returns is the plan.
func TestParseOfPrint(t *testing.T) {
	x := rand.New(rand.NewSource(70))
	for n := range 600 {
		p := randomPlan(x, 1+x.Intn(20), x.Intn(20), pick(x, 5, 100, 3000), pick(x, 5, 1000, 100000))
		if n == 0 {
			p = drawing{}
		}
		wantKept(t, p, func() {
			text := ok[string](t)(plan.Print(p))
			wantPlan(t, shown(text), parsed(t, text), p)
			again := ok[string](t)(plan.Print(parsed(t, strings.TrimSuffix(text, "\n"))))
			want(t, "printed again", again, text)
		})
	}
}

// A plan's text may be longer than a text that is read.
func TestPrintLong(t *testing.T) {
	var p drawing
	for i := range api.MaxSheets {
		p.Sheets = append(p.Sheets, upright(func(s *sheet) {
			s.Name, s.Batter, s.Height, s.Skin, s.Heights, s.Least, s.Lap, s.Run = fmt.Sprint("abcdefghijklmn", 10+i), 499, 3000, 1500, repeated(1000, 12), 1000, 500, 20
			s.Every, s.At, s.Footing, s.Spread, s.Tall, s.Short, s.Thick, s.Low, s.High, s.Rood = 100000, 3000, 1000, 1000, 1000, 1000, 1000, 2000, 2000, 100000
		}))
	}
	for i := range api.MaxWalls {
		w := wall{Name: p.Sheets[0].Name[:14] + fmt.Sprint(10+i), Sheet: p.Sheets[0].Name, Length: api.MaxFar}
		for k := range 18 {
			w.Openings = append(w.Openings, smoot(10000+k%9*10000, 10000, 1000+k/9*1000, 1000))
		}
		w.Openings = append(w.Openings, smoot(10000, 10000, 100, 900), smoot(20000, 10000, 100, 900))
		p.Walls = append(p.Walls, w)
	}
	text := ok[string](t)(plan.Print(p))
	want(t, fmt.Sprint("longer: ", len(text)), len(text) > api.MaxPlan, true)
	wantParseError(t, text, 0, api.ErrLimit)
	for len(text) > api.MaxPlan {
		p.Sheets = p.Sheets[:len(p.Sheets)-1]
		text = ok[string](t)(plan.Print(p))
	}
	wantPlan(t, "not longer", parsed(t, text), p)
}

// mangled returns a text in which something is changed.
func mangled(x *rand.Rand, text string) string {
	lines := strings.SplitAfter(text, "\n")
	at, to := x.Intn(len(lines)), x.Intn(len(lines))
	switch x.Intn(8) {
	case 0:
		lines = slices.Delete(lines, at, at+1)
	case 1:
		lines = slices.Insert(lines, at, lines[to])
	case 2:
		lines[at], lines[to] = lines[to], lines[at]
	case 3:
		lines = slices.Insert(lines, at, pick(x, "\n", "#\n", "# x\n", "#", " \n"))
	case 4, 5:
		words := strings.Split(lines[at], " ")
		words[x.Intn(len(words))] = pick(x, "0", "1", "100", "999999", "1000000", "07", "", "x", "s0", "s1", "w0", "w1", "flat", "buck", "none", "smoot", "gate", "200 180", "\n")
		lines[at] = strings.Join(words, " ")
	default:
		if len(text) > 0 {
			i := x.Intn(len(text))
			return text[:i] + pick(x, "", " ", "\n", "0", "1", "-", "a", "S", "#", "\r", "\xff") + text[i+x.Intn(2):]
		}
	}
	return strings.Join(lines, "")
}

func TestParseMany(t *testing.T) {
	x := rand.New(rand.NewSource(71))
	seen := map[api.Errno]int{}
	for range 20000 {
		text, e := plan.Print(randomPlan(x, 1+x.Intn(3), x.Intn(4), 60, 100))
		wantErr(t, "Print", e, api.OK)
		for range 1 + x.Intn(3) {
			text = mangled(x, text)
		}
		p, line, e := plan.Parse(text)
		slow, slowLine, slowE := parseOf(text)
		want(t, shown(text), []any{line, e}, []any{slowLine, slowE})
		wantPlan(t, shown(text), p, slow)
		wantErr(t, shown(text), plan.Check(p), api.OK)
		seen[e]++
	}
	for _, e := range []api.Errno{api.OK, api.ErrForm, api.ErrTwice, api.ErrArg, api.ErrName} {
		if seen[e] < 200 {
			t.Errorf("%v: %d times", e, seen[e])
		}
	}
}
