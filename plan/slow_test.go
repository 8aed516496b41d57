package plan_test

import (
	"regexp"
	"slices"
	"strconv"
	"strings"

	"copestone/api"
	"copestone/plan"
)

// meet looks for a common square of the size 1: all ends are whole.
func meet(a, b opening) bool {
	return overlap(a.At, a.Width, b.At, b.Width) && overlap(a.From, a.High, b.From, b.High)
}

// overlap looks for a common stretch of the length 1.
func overlap(a, long, b, wide int) bool {
	for x := a; x < a+long; x++ {
		if b <= x && x < b+wide {
			return true
		}
	}
	return false
}

// widthOf counts up to the greatest integer that is at most Batter times z / 1000.
func widthOf(s sheet, z int) int {
	lean := 0
	for 1000*(lean+1) <= s.Batter*z {
		lean++
	}
	return s.Base - lean - lean
}

// coursesOf piles up heights until the next one does not fit.
func coursesOf(s sheet) []course {
	heights := append(slices.Clone(s.Heights), repeated(s.Heights[len(s.Heights)-1], s.Height)...)
	ends := []int{0}
	for ends[len(ends)-1]+heights[len(ends)-1] <= s.Height {
		ends = append(ends, ends[len(ends)-1]+heights[len(ends)-1])
	}
	rest := s.Height - ends[len(ends)-1]
	if rest > 0 {
		if rest < s.Least && len(ends) > 1 {
			ends = ends[:len(ends)-1]
		}
		ends = append(ends, s.Height)
	}
	var l []course
	for i := range ends[1:] {
		l = append(l, course{ends[i], ends[i+1]})
	}
	return l
}

// freeIn tells of each millimetre of a wall whether no opening that counts is
// there.
func freeIn(w wall, counts func(o opening) bool) []bool {
	free := make([]bool, w.Length)
	for x := range free {
		free[x] = !slices.ContainsFunc(w.Openings, func(o opening) bool { return counts(o) && o.At <= x && x < o.At+o.Width })
	}
	return free
}

func freeInCourse(w wall, c course) []bool {
	return freeIn(w, func(o opening) bool { return overlap(c.From, c.To-c.From, o.From, o.High) })
}

func freeOnTop(w wall, s sheet) []bool {
	return freeIn(w, func(o opening) bool { return o.From+o.High == s.Height })
}

// baysOf returns where something is free.
func baysOf(free []bool) []bay {
	var l []bay
	for x, is := range free {
		if !is {
			continue
		}
		if x == 0 || !free[x-1] {
			l = append(l, bay{x, x})
		}
		l[len(l)-1].To = x + 1
	}
	return l
}

func throughsOf(w wall, s sheet) (int, []int) {
	if s.Every == 0 {
		return -1, nil
	}
	for i, c := range coursesOf(s) {
		if c.From < s.At {
			continue
		}
		free := freeInCourse(w, c)
		var l []int
		for x := 1; x < w.Length; x++ {
			if x%s.Every == s.Every/2%s.Every && free[x-1] && free[x] {
				l = append(l, x)
			}
		}
		return i, l
	}
	return -1, nil
}

func copesOf(w wall, s sheet) []cope {
	if s.Cope == plan.None {
		return nil
	}
	var l []cope
	for _, b := range baysOf(freeOnTop(w, s)) {
		for x := b.From; x < b.To; x++ {
			n := (x - b.From) / s.Thick
			if (x-b.From)%s.Thick == 0 {
				high := s.Tall
				if s.Cope == plan.Buck && n%2 == 1 {
					high = s.Short
				}
				l = append(l, cope{x, 0, high})
			}
			l[len(l)-1].Width++
		}
	}
	return l
}

// quantitiesOf adds up millimetre by millimetre.
func quantitiesOf(w wall, s sheet) quantities {
	var q quantities
	for _, c := range coursesOf(s) {
		width := widthOf(s, c.From)
		for _, is := range freeInCourse(w, c) {
			if is && width > 2*s.Skin {
				q.Face += int64(2 * s.Skin * (c.To - c.From))
				q.Hearting += int64((width - 2*s.Skin) * (c.To - c.From))
			} else if is {
				q.Face += int64(width * (c.To - c.From))
			}
		}
	}
	for range w.Length {
		q.Foot += int64(s.Footing * (s.Spread + s.Base + s.Spread))
	}
	for _, c := range copesOf(w, s) {
		q.Top += int64(c.Width * c.High * widthOf(s, s.Height))
	}
	_, places := throughsOf(w, s)
	q.Throughs, q.Copes = len(places), len(copesOf(w, s))
	for (q.Roods+1)*s.Rood <= 100*w.Length {
		q.Roods++
	}
	return q
}

// The forms of lines.

func formOf(words string) *regexp.Regexp {
	words = strings.ReplaceAll(words, "N .. N", "((?:N )*N)")
	words = strings.ReplaceAll(words, "NAME", "([a-z0-9]{1,16})")
	words = regexp.MustCompile(`\bN\b`).ReplaceAllString(words, "(?:0|[1-9][0-9]{0,5})")
	return regexp.MustCompile("^(?:" + words + ")$")
}

var (
	sheetForm = formOf("sheet NAME base N batter N height N skin N heights N .. N least N lap N run N through N N footing N N cope (?:flat|upright|buck|none) N N N friction N N rood N")
	wallForm  = formOf("wall NAME NAME N")
	openForm  = formOf("open (?:smoot|lunky|stile|gate) N N N N")
)

// numbersOf returns the numbers of a line; those in names are none.
func numbersOf(line string) []int {
	var l []int
	for i, word := range strings.Split(line, " ") {
		if n, err := strconv.Atoi(word); err == nil && i > 1 {
			l = append(l, n)
		}
	}
	return l
}

// sheetOf wants a line of the form.
func sheetOf(line string) sheet {
	n := numbersOf(line)
	k := len(n) - 17 // how many heights there are
	cope := strings.Fields(line[strings.LastIndex(line, " cope ")+6:])[0]
	l := n[4+k:]
	return sheet{
		Name: strings.Fields(line)[1], Base: n[0], Batter: n[1], Height: n[2], Skin: n[3], Heights: n[4 : 4+k], Least: l[0], Lap: l[1], Run: l[2], Every: l[3], At: l[4],
		Footing: l[5], Spread: l[6], Cope: uint8(slices.Index([]string{"none", "flat", "upright", "buck"}, cope)), Tall: l[7], Short: l[8], Thick: l[9], Low: l[10], High: l[11], Rood: l[12],
	}
}

func openingOf(line string) opening {
	n := numbersOf(line)
	return opening{uint8(1 + slices.Index([]string{"smoot", "lunky", "stile", "gate"}, strings.Fields(line)[1])), n[0], n[1], n[2], n[3]}
}

// parseOf reads a text by the words of the chapter; what is valid is the
// package's answer.
func parseOf(text string) (p drawing, line int, e api.Errno) {
	if len(text) > api.MaxPlan {
		return drawing{}, 0, api.ErrLimit
	}
	for i, line := range strings.Split(text, "\n") {
		if line == "" || line[0] == '#' {
			continue
		}
		switch {
		case sheetForm.MatchString(line):
			e = withSheet(&p, sheetOf(line))
		case wallForm.MatchString(line):
			words := strings.Fields(line)
			n, _ := strconv.Atoi(words[3])
			e = withWall(&p, wall{Name: words[1], Sheet: words[2], Length: n})
		case openForm.MatchString(line) && len(p.Walls) > 0:
			w := &p.Walls[len(p.Walls)-1]
			w.Openings = append(w.Openings, openingOf(line))
			e = plan.Check(p)
		default:
			e = api.ErrForm
		}
		if e != api.OK {
			return drawing{}, i + 1, e
		}
	}
	return p, 0, api.OK
}

func withSheet(p *drawing, s sheet) api.Errno {
	for _, other := range p.Sheets {
		if other.Name == s.Name {
			return api.ErrTwice
		}
	}
	if e := plan.CheckSheet(s); e != api.OK {
		return e
	}
	if len(p.Sheets) == 20 {
		return api.ErrLimit
	}
	p.Sheets = append(p.Sheets, s)
	return api.OK
}

func withWall(p *drawing, w wall) api.Errno {
	for _, other := range p.Walls {
		if other.Name == w.Name {
			return api.ErrTwice
		}
	}
	for _, s := range p.Sheets {
		if s.Name != w.Sheet {
			continue
		}
		if e := plan.Check(of(s, w)); e != api.OK {
			return e
		}
		if len(p.Walls) == 50 {
			return api.ErrLimit
		}
		p.Walls = append(p.Walls, w)
		return api.OK
	}
	return api.ErrName
}
